/-
  The room of a type that may be known.
-/
import Derived.Test.YtnoajihlkjeknaaDoorYRmA
import Derived.Test.YtnoajihlkjeknaaDoorYTab
import Derived.Maps.Range
namespace Go.Proofs.YtnoajihlkjeknaaDoor
open Go.ChangeShapes Go.WideShapes Go.ChangeAt Go.RowKit
open Go.Maps (Keyed IsMap)

def OfI (L : List Nd) (p e : Nat) : Prop := ∀ (w : World) (b off cap B n : Nat), b < w.heap.size → b ≠ B → Hid (ndAt w b off (segL L p e)) → Hid (Tabs w) → B ≠ 0 → Hid (Known L w B n) → n + (e - p) ≤ 1000 →
  Calls Tryd.prog 35 #[.map (some B), .slice (some ⟨b, off, none⟩) (segL L p e).length cap] w fun r w' => r = .returned (roomV (rm L L.length p)) ∧ Known L w' B (n + (e - p)) ∧ w.grownBy w' (some B)
def LaidI (L : List Nd) (p e : Nat) : Prop := ∀ (w : World) (b off cap B n : Nat), b < w.heap.size → b ≠ B → Hid (ndAt w b off (segL L p e)) → Hid (Tabs w) → B ≠ 0 → Hid (Known L w B n) → n + (e - p) ≤ 1000 →
  Calls Tryd.prog 58 #[.map (some B), .slice (some ⟨b, off, none⟩) (segL L p e).length cap] w fun r w' => ∃ v, r = .returned (.tuple #[v, roomV (rm L L.length p)]) ∧ Known L w' B (n + (e - p) - 1) ∧ w.grownBy w' (some B)

theorem infoNd3 : (Tryd.prog.info? 53).map (·.size) = some 3 := by kernel_rfl
theorem infoWh : (Tryd.prog.info? 100).map (·.size) = some 120 := by kernel_rfl

theorem zeroWh : Tryd.zeroCells100.toList = List.replicate 120 (Value.int .i64 0) := by kernel_rfl
theorem grown_below {B0 : Nat} {w w' : World} (h : Below B0 w w') (hB : w.heap.size ≤ B0) (row : Option Nat) : w.grownBy w' row := ⟨h.os, h.tape, h.output, h.size, fun k hk _ => h.block k (by omega)⟩
theorem nd_grown {w w' : World} {row : Option Nat} {b off : Nat} {X : List Nd} (h : ndAt w b off X) (hg : w.grownBy w' row) (hb : b < w.heap.size) (hne : some b ≠ row) : ndAt w' b off X := fun i hi => by
  obtain ⟨h0, h1, h2⟩ := h i hi
  have e := hg.block b hb hne
  exact ⟨(cell_heap e _).trans h0, (cell_heap e _).trans h1, (cell_heap e _).trans h2⟩
theorem tabs_grown {w w' : World} {row : Option Nat} (h : Tabs w) (hg : w.grownBy w' row) (hne : some 0 ≠ row) : Tabs w' := by
  have e := hg.block _ h.1 hne
  refine ⟨Nat.lt_of_lt_of_le h.1 hg.size, fun i hi => ?_⟩
  obtain ⟨h0, h1, h2, h3, h4, h5, h6⟩ := h.2 i hi
  exact ⟨(cell_heap e _).trans h0, (cell_heap e _).trans h1, (cell_heap e _).trans h2, (cell_heap e _).trans h3, (cell_heap e _).trans h4, (cell_heap e _).trans h5, (cell_heap e _).trans h6⟩

theorem wpList_lookup_room {w : World} {ops : Array Oper} {rest : List Oper} {o : Oper} {a : Act} {Q : Exit → Act → World → Prop} (hg : o.guard = none) (m x : Operand) (t : TypeId) (hop : o.op = Op.lookup t m x true)
    (ht : Tryd.prog.underlying t = some (.map 100 57)) (B n : Nat) (D : DataW Unit) (hm : a.eval m = .map (some B)) (hown : w.ownsMap Tryd.prog 100 roomR B n D) (key : Value) (kl : Lit) (hx : a.eval x = key)
    (hkey : keyOf Tryd.prog 100 key = some kl) (r : Nat × Nat) (hr : D.atKey kl (roomD (0, 0)) = roomD r) (q : Bool) (hq : Maps.has D kl = q)
    (hK : wpList Tryd.prog ops Q rest (a.put o.dst (.tuple #[.agg #[.int .i64 (r.1 : Int), .int .i64 (r.2 : Int)], .bool q])) w) : wpList Tryd.prog ops Q (o :: rest) a w :=
  wpList_lookup_own_ok w hg m x t hop 100 57 keyedW ht roomR (roomZero w) (roomD (0, 0)) [] (roomR_mk (0, 0)) B n D hm hown key kl hx hkey (fun v ps hv => by
    rw [hr] at hv
    rw [roomR_inv hv, hq]
    exact hK)

set_option maxRecDepth 100000 in
set_option maxHeartbeats 6400000 in
theorem implOf (L : List Nd) (hG : goodT L = true) (p e : Nat) (he : isEnd L p e) (HLI : LaidI L p e) : OfI L p e := by
  intro w b off cap B n hb hbB hL hT hBT hK hn
  obtain ⟨kl, hkl⟩ := seg_key hG he
  have h40 : (segL L p e).length ≤ 40 := by rw [segL_len he.1]; have := he.2.1; have := (ups_good hG).2.1; omega
  have HLI' : Hid (LaidI L p e) := HLI
  have hBl := hK.out.lt
  obtain ⟨D, hown, hmap, hkn⟩ := hK.out
  have HKN : Hid (∀ kl, Maps.has D kl = true → ∃ p e, isEnd L p e ∧ keyOf Tryd.prog 100 (wv (segL L p e)) = some kl ∧ D.atKey kl (roomD (0, 0)) = roomD (rm L L.length p)) := hkn
  have HAT : Hid (Maps.has D kl = true → D.atKey kl (roomD (0, 0)) = roomD (rm L L.length p)) := fun h => Known.at hG he hkl hkn h
  have HPUT : Hid (∀ kl', Maps.has (D.put kl (roomD (rm L L.length p))) kl' = true → ∃ q e', isEnd L q e' ∧ keyOf Tryd.prog 100 (wv (segL L q e')) = some kl' ∧ (D.put kl (roomD (rm L L.length p))).atKey kl' (roomD (0, 0)) = roomD (rm L L.length q)) := Known.put he hkl hmap hkn
  obtain ⟨X, hX⟩ : ∃ X, segL L p e = X := ⟨_, rfl⟩
  obtain ⟨⟨s, a⟩, hR⟩ : ∃ R, rm L L.length p = R := ⟨_, rfl⟩
  have HX : Hid (segL L p e = X) := hX
  have HKL : Hid (keyOf Tryd.prog 100 (wv (segL L p e)) = some kl) := hkl
  have HRM : Hid (rm L L.length p = (s, a)) := hR
  rw [hX] at h40 hkl hL ⊢
  rw [hR] at HAT ⊢
  have HLc : Hid (∀ j v, (cellsN X)[j]? = some v → w.cell? ((⟨b, off, none⟩ : Addr).add j) = some v) := nd_cells hL.out
  have hwv : Hid (wv X = .agg (cellsN (padN X)).toArray) := rfl
  have hsz : (Tryd.prog.info? 100).map (·.size) = some (cellsN (padN X)).toArray.size := by rw [infoWh]; simp [cellsN_len, padN_len h40]
  obtain ⟨q, hq⟩ : ∃ q, Maps.has D kl = q := ⟨_, rfl⟩
  clear HLI hX hR hkn
  obtain ⟨w1, hrun, hz1, hg1⟩ : ∃ w1, (Builtin.copy_ #[26, 26] 3 #[.slice (some ⟨w.heap.size + 1, 0, none⟩) 40 40, .slice (some ⟨b, off, none⟩) X.length cap]).run Tryd.prog ((w.alloc (.cells #[.int .i64 0, .int .i64 0] 57)).alloc (.cells Tryd.zeroCells100 100)) = .ok (goInt X.length) w1 ∧
      w1.heap[w.heap.size + 1]? = some (.cells (cellsN (padN X)).toArray 100 (0, 0)) ∧ ((w.alloc (.cells #[.int .i64 0, .int .i64 0] 57)).alloc (.cells Tryd.zeroCells100 100)).grownBy w1 (some (w.heap.size + 1)) := by
    have hg0 : ((w.alloc (.cells #[.int .i64 0, .int .i64 0] 57)).alloc (.cells Tryd.zeroCells100 100)).heap[w.heap.size + 1]? = some (.cells Tryd.zeroCells100 100 (0, 0)) := by
      have e : w.heap.size + 1 = (w.alloc (.cells #[.int .i64 0, .int .i64 0] 57)).heap.size := by simp
      rw [e]; exact heap_alloc_new _ _
    have h := run_copy_row3 (P := Tryd.prog) _ 26 26 3 53 (w.heap.size + 1) 0 40 40 ⟨b, off, none⟩ X.length cap Tryd.zeroCells100 100 (cellsN X) Tryd.underlying26 infoNd3 hg0 X.length (by show min X.length 40 = _; omega) (cellsN_len X) (fun j v hv => by
      have := HLc.out j v hv
      rw [Addr.add_lit] at this ⊢
      exact pastCell (by simp; omega) (pastCell hb this)) (by rw [cellsN_len, ← Array.length_toList, zeroWh, List.length_replicate]; omega) (cellsN_one X)
    rw [zeroWh, whole_laid h40] at h
    exact ⟨_, h, setRow_heap _ _ _ _ _ _ hg0, ⟨rfl, rfl, rfl, by simp [World.setRow], fun k _ hk => setRow_other _ _ k _ (fun e => hk (by rw [e]))⟩⟩
  have hb1 : Below w.heap.size w w1 := (((Below.refl w.heap.size w).alloc (Nat.le_refl _) _).alloc (by simp) _).grown hg1 (by simp; omega) (fun k hk => by simp at hk; omega)
  have hr0 : w1.heap[w.heap.size]? = some (.cells #[.int .i64 0, .int .i64 0] 57 (0, 0)) := (hg1.block _ (by simp; omega) (by simp)).trans ((Below.heap_alloc _ _ _ (by simp)).trans (heap_alloc_new _ _))
  have hs1 : w.heap.size + 2 ≤ w1.heap.size := by have := hg1.size; simpa using this
  have hown1 : w1.ownsMap Tryd.prog 100 roomR B n D := hown.kept (grown_below hb1 (Nat.le_refl _) none) (by simp)
  have hlt : w.heap.size < w1.heap.size := by omega
  have hlt2 : w.heap.size + 1 < w1.heap.size := by omega
  clear hg1 HLc hs1
  have f0 := free_of_block hr0 0
  have f1 := free_of_block hr0 1
  have d0 := (cell_of_block hr0 0).trans rfl
  have d1 := (cell_of_block hr0 1).trans rfl
  have hkv : keyOf Tryd.prog 100 (.agg (cellsN (padN X)).toArray) = some kl := hkl
  obtain ⟨C, hC⟩ : ∃ C, (cellsN (padN X)).toArray = C := ⟨_, rfl⟩
  rw [hC] at hkv hz1 hsz
  cases q with
  | true =>
    have hat := HAT.out hq
    go_enter Tryd.func35, Tryd.ntmps35
    go_wp2_with (first | (at_lookup; refine wpList_lookup_room rfl _ _ 59 rfl Tryd.underlying59 B n D rfl hown1 _ kl rfl hkv (s, a) hat true hq ?_) | (refine wpList_load_row rfl 100 _ rfl (w.heap.size + 1) rfl 100 C (0, 0) _ hz1 Tryd.underlying100 rfl hsz ?_))
    have hfin := fun (o : Obj) (v1 v2 : Value) => ((hb1.setCell (p := ⟨w.heap.size, 0, none⟩) (Nat.le_refl _) v1).setCell (p := ⟨w.heap.size, 1, none⟩) (Nat.le_refl _) v2).alloc (by simp; omega) o
    have Z9 : ((w1.setCell ⟨w.heap.size, 0, none⟩ (.int .i64 (s : Int))).setCell ⟨w.heap.size, 1, none⟩ (.int .i64 (a : Int))).heap[w.heap.size]? = some (.cells #[.int .i64 (s : Int), .int .i64 (a : Int)] 57 (0, 0)) := by
      rw [heap_setCell_same _ _ _ _ _ _ (heap_setCell_same _ _ _ _ _ _ hr0)]
      rfl
    have k0 := fun (o : Obj) => pastCell (o := o) (by simp; omega) ((cell_of_block Z9 0).trans rfl)
    have k1 := fun (o : Obj) => pastCell (o := o) (by simp; omega) ((cell_of_block Z9 1).trans rfl)
    refine bodyPost_ret (v := roomV (s, a)) ?_ rfl ⟨rfl, (hK.out.kept (grown_below (hfin _ _ _) (Nat.le_refl _) none) (by simp)).mono (by omega), grown_below (hfin _ _ _) (Nat.le_refl _) _⟩
    simp [results, Tryd.results35, go_sem, roomV, k0, k1]
  | false =>
    have hat : D.atKey kl (roomD (0, 0)) = roomD (0, 0) := Maps.atKey_of_not_has hq _
    have hb5 := fun (o : Obj) => hb1.alloc (by omega) o
    have HC := fun (o : Obj) => HLI'.out (w1.alloc o) b off cap B n (by simp; omega) hbB (by rw [HX.out]; exact hL.out.below (hb5 o) hb) (hT.out.below (hb5 o) (Nat.le_refl _)) hBT (hK.out.kept (grown_below (hb5 o) (Nat.le_refl _) none) (by simp)) hn
    rw [HX.out, HRM.out] at HC
    have HC' : Hid (∀ o, Calls Tryd.prog 58 #[.map (some B), .slice (some ⟨b, off, none⟩) X.length cap] (w1.alloc o) fun r w' => ∃ v, r = .returned (.tuple #[v, .agg #[.int .i64 (s : Int), .int .i64 (a : Int)]]) ∧ Known L w' B (n + (e - p) - 1) ∧ (w1.alloc o).grownBy w' (some B)) := HC
    have hb1h : Hid (Below w.heap.size w w1) := hb1
    clear HC hb5 hb1
    go_enter Tryd.func35, Tryd.ntmps35
    go_wp2_with (first | (at_lookup; refine wpList_lookup_room rfl _ _ 59 rfl Tryd.underlying59 B n D rfl hown1 _ kl rfl hkv (0, 0) hat false hq ?_) | (refine wpList_load_row rfl 100 _ rfl (w.heap.size + 1) rfl 100 C (0, 0) _ hz1 Tryd.underlying100 rfl hsz ?_))
    refine (HC'.out _).mono ?_
    rintro r w6 ⟨v, rfl, hk6, hg6⟩
    clear HC'
    have r0' : w6.heap[w.heap.size]? = some (.cells #[.int .i64 0, .int .i64 0] 57 (0, 0)) := (hg6.block _ (by simp; omega) (by simp; omega)).trans ((Below.heap_alloc _ _ _ hlt).trans hr0)
    have rz' : w6.heap[w.heap.size + 1]? = some (.cells C 100 (0, 0)) := (hg6.block _ (by simp; omega) (by simp; omega)).trans ((Below.heap_alloc _ _ _ hlt2).trans hz1)
    have rt' : w6.heap[w1.heap.size]? = some (.cells #[.int .i64 0, .int .i64 0] 57 (0, 0)) := (hg6.block _ (by simp) (by simp; omega)).trans (heap_alloc_new _ _)
    have hb6 : w.grownBy w6 (some B) := (grown_below (hb1h.out.alloc (by omega) _) (Nat.le_refl _) _).trans hg6
    obtain ⟨z6, hz6⟩ : ∃ z, w1.heap.size = z := ⟨_, rfl⟩
    rw [hz6] at rt' hlt hlt2
    obtain ⟨D6, ho6, hm6, hkn6⟩ := hk6
    have HP6 := Known.put he HKL.out hm6 hkn6
    rw [HRM.out] at HP6
    have HP : Hid (∀ kl', Maps.has (D6.put kl (roomD (s, a))) kl' = true → ∃ q e', isEnd L q e' ∧ keyOf Tryd.prog 100 (wv (segL L q e')) = some kl' ∧ (D6.put kl (roomD (s, a))).atKey kl' (roomD (0, 0)) = roomD (rm L L.length q)) := HP6
    have hm8 := hm6.put kl (roomD (s, a))
    have t0 := (cell_of_block rt' 0).trans rfl
    have t1 := (cell_of_block rt' 1).trans rfl
    have u0 := free_of_block rt' 0
    have u1 := free_of_block rt' 1
    have hgW : w6.grownBy ((w6.setCell ⟨z6, 0, none⟩ (.int .i64 (s : Int))).setCell ⟨z6, 1, none⟩ (.int .i64 (a : Int))) (some z6) := ⟨rfl, rfl, rfl, by simp, fun k _ hk => (heap_setCell_other _ _ _ _ (by simp at hk ⊢; omega)).trans (heap_setCell_other _ _ _ _ (by simp at hk ⊢; omega))⟩
    have HZ := (hgW.block _ (lt_of_block rz') (by simp; omega)).trans rz'
    have HM := ho6.kept hgW (by simp; omega)
    have HT9 : ((w6.setCell ⟨z6, 0, none⟩ (.int .i64 (s : Int))).setCell ⟨z6, 1, none⟩ (.int .i64 (a : Int))).heap[z6]? = some (.cells #[.int .i64 (s : Int), .int .i64 (a : Int)] 57 (0, 0)) := by
      rw [heap_setCell_same _ _ _ _ _ _ (heap_setCell_same _ _ _ _ _ _ rt')]
      rfl
    have HR9 := (hgW.block _ (lt_of_block r0') (by simp; omega)).trans r0'
    have hn9 : n + (e - p) - 1 < maxLen := by unfold maxLen; omega
    clear hg6 hkn6 HP6 hr0 hz1 d0 d1 f0 f1 hown1 hown hat HKN HAT HPUT
    rw [hz6]
    clear hz6
    go_wp2_with (first | (at_mapUpdate; refine wpList_mapUpdate_own _ rfl _ _ _ 59 rfl 100 57 keyedW Tryd.underlying59 roomR B (n + (e - p) - 1) D6 rfl HM hn9 _ _ kl rfl rfl hkv (roomD (s, a)) [] rfl ?_) | (refine wpList_load_row rfl 100 _ rfl (w.heap.size + 1) rfl 100 C (0, 0) _ HZ Tryd.underlying100 rfl hsz ?_))
    intro w8 ho8 hg8
    have hR8 := (hg8.block _ (lt_of_block HR9) (by simp; omega)).trans HR9
    have hT8 := (hg8.block _ (lt_of_block HT9) (by simp; omega)).trans HT9
    have hb8 : Hid (w.grownBy w8 (some B)) := (hb6.andThen hgW (fun j hj => by simp at hj; omega)).trans hg8
    have HO8 : Hid (w8.ownsMap Tryd.prog 100 roomR B (n + (e - p) - 1 + 1) (D6.put kl (roomD (s, a)))) := ho8
    clear t0 t1 u0 u1 HZ HM HR9 HT9 hgW hg8 ho8 hb6 rt' rz' r0' ho6
    have t0 := (cell_of_block hT8 0).trans rfl
    have t1 := (cell_of_block hT8 1).trans rfl
    have d0 := (cell_of_block hR8 0).trans rfl
    have d1 := (cell_of_block hR8 1).trans rfl
    have f0 := free_of_block hR8 0
    have f1 := free_of_block hR8 1
    go_wp2
    have hgF : w8.grownBy ((w8.setCell ⟨w.heap.size, 0, none⟩ (.int .i64 (s : Int))).setCell ⟨w.heap.size, 1, none⟩ (.int .i64 (a : Int))) (some w.heap.size) := ⟨rfl, rfl, rfl, by simp, fun k _ hk => (heap_setCell_other _ _ _ _ (by simp at hk ⊢; omega)).trans (heap_setCell_other _ _ _ _ (by simp at hk ⊢; omega))⟩
    have Z9 : ((w8.setCell ⟨w.heap.size, 0, none⟩ (.int .i64 (s : Int))).setCell ⟨w.heap.size, 1, none⟩ (.int .i64 (a : Int))).heap[w.heap.size]? = some (.cells #[.int .i64 (s : Int), .int .i64 (a : Int)] 57 (0, 0)) := by
      rw [heap_setCell_same _ _ _ _ _ _ (heap_setCell_same _ _ _ _ _ _ hR8)]
      rfl
    have k0 := (cell_of_block Z9 0).trans rfl
    have k1 := (cell_of_block Z9 1).trans rfl
    have hep := he.1
    refine bodyPost_ret (v := roomV (s, a)) ?_ rfl ⟨rfl, Known.mono ⟨_, HO8.out.kept hgF (by simp; omega), hm8, HP.out⟩ (by omega), hb8.out.andThen hgF (fun j hj => by simp at hj; omega)⟩
    simp [results, Tryd.results35, go_sem, roomV, k0, k1]

end Go.Proofs.YtnoajihlkjeknaaDoor
