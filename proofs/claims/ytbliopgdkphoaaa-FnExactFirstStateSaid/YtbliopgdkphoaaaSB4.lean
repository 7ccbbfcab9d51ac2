/-
  First states: both sides.
-/
import Derived.Test.YtbliopgdkphoaaaSB2
import Derived.Test.YtbliopgdkphoaaaSB3
import Derived.Test.YtbliopgdkphoaaaSB1
import Derived.Test.YtbliopgdkphoaaaKRows
import Derived.Test.YtbliopgdkphoaaaGShapeL
import Derived.Test.YtbliopgdkphoaaaGShapeS
namespace Go.Proofs.Ytbliopgdkphoaaa
open Go.ChangeShapes Go.WideShapes Go.ChangeAt Go.RowKit

def toWd (g : Glo7) : Wd8 := ⟨g.ty, g.bits⟩
def wv (L : List Wd8) : List Value := L.flatMap fun x => [.int .i64 x.ty, .int .u64 x.bits]
theorem wv_app (L : List Wd8) (x : Wd8) : wv (L ++ [x]) = wv L ++ [.int .i64 x.ty, .int .u64 x.bits] := by simp [wv]
theorem wv_len (L : List Wd8) : (wv L).length = L.length * 2 := by
  induction L with
  | nil => rfl
  | cons x r ih => simp only [wv, List.flatMap_cons, List.length_append, List.length_cons, List.length_nil] at ih ⊢; omega
theorem wv_at : ∀ (L : List Wd8) (k : Nat) (hk : k < L.length), (wv L)[k * 2]? = some (.int .i64 L[k].ty) ∧ (wv L)[k * 2 + 1]? = some (.int .u64 L[k].bits)
  | [], k, hk => by simp at hk
  | x :: r, 0, _ => by simp [wv]
  | x :: r, k + 1, hk => by
    have h := wv_at r k (by simpa using hk)
    have e : wv (x :: r) = [.int .i64 x.ty, .int .u64 x.bits] ++ wv r := rfl
    rw [e, List.getElem?_append_right (by simp; omega), List.getElem?_append_right (by simp; omega)]
    simp only [List.length_cons, List.length_nil]
    rw [show (k + 1) * 2 - (0 + 1 + 1) = k * 2 by omega, show (k + 1) * 2 + 1 - (0 + 1 + 1) = k * 2 + 1 by omega]
    exact h
theorem take_wd (G : List Glo7) (k : Nat) (h : k < G.length) : (G.map toWd).take (k + 1) = (G.map toWd).take k ++ [⟨G[k].ty, G[k].bits⟩] := by
  rw [List.take_succ_eq_append_getElem (by simpa using h)]
  simp [toWd]
/-- Words in a block of their own, from B on. -/
def WdsB (B : Nat) (w : World) (a : Option Addr) (L : List Wd8) : Prop := Wds w a L ∧ RowB w 86 2 a L.length ∧ ∀ b, 0 < L.length → a = some ⟨b, 0, none⟩ → B ≤ b
theorem WdsB.below {B : Nat} {w w' : World} {a : Option Addr} {L : List Wd8} (h : WdsB B w a L) (hb : Below w.heap.size w w') : WdsB B w' a L := ⟨h.1.below hb, h.2.1.below hb, h.2.2⟩
theorem WdsB.low {B B' : Nat} {w : World} {a : Option Addr} {L : List Wd8} (h : WdsB B w a L) (hb : B' ≤ B) : WdsB B' w a L := ⟨h.1, h.2.1, fun b hn e => Nat.le_trans hb (h.2.2 b hn e)⟩
theorem WdsB.set {B : Nat} {w : World} {a : Option Addr} {L : List Wd8} (h : WdsB B w a L) {m : Nat} (hm : m < B) (i : Nat) (v : Value) : WdsB B (w.setCell ⟨m, i, none⟩ v) a L := by
  refine ⟨fun hn => ?_, fun hn => ?_, h.2.2⟩
  · obtain ⟨b, off, ha, hl, hc⟩ := h.1 hn
    obtain ⟨b', arr, ha', _, _⟩ := h.2.1 (List.length_pos_iff.2 hn)
    have hB := h.2.2 b' (List.length_pos_iff.2 hn) ha'
    rw [ha] at ha'
    simp at ha'
    have hbm : b ≠ m := by omega
    exact ⟨b, off, ha, by simpa using hl, fun k hk => ⟨(setCell_other_cell _ _ _ _ _ _ hbm).trans (hc k hk).1, (setCell_other_cell _ _ _ _ _ _ hbm).trans (hc k hk).2⟩⟩
  · obtain ⟨b, arr, ha, h0, h1⟩ := h.2.1 hn
    have hB := h.2.2 b hn ha
    exact ⟨b, arr, ha, (heap_setCell_other _ ⟨m, i, none⟩ b _ (show b ≠ m by omega)).trans h0, h1⟩
theorem own_wds {w : World} {B : Nat} {a : Option Addr} {c : Nat} {L : List Wd8} (h : w.ownsRow B 86 2 (.slice a L.length c) L.length (wv L)) : WdsB B w a L := by
  refine ⟨fun hn => ?_, fun hn => ?_, fun b hn e => ?_⟩
  · obtain ⟨g, c2, he, _⟩ := own_pos h (List.length_pos_iff.2 hn)
    simp only [Value.slice.injEq, true_and] at he
    obtain ⟨rfl, rfl⟩ := he
    obtain ⟨cur, hc, _⟩ := own_at h (g := g) rfl
    refine ⟨g, 0, rfl, lt_of_block hc, fun k hk => ?_⟩
    obtain ⟨h1, h2⟩ := wv_at L k hk
    rw [Nat.zero_add]
    exact ⟨(own_cell h h1).1, (own_cell h h2).1⟩
  · rcases h.2 with ⟨_, h0⟩ | ⟨g, cap, cur, hv, _, hh, hc, _, hs, _⟩
    · omega
    · simp only [Value.slice.injEq, true_and] at hv
      obtain ⟨rfl, rfl⟩ := hv
      refine ⟨g, cur, rfl, hh, ?_⟩
      have : L.length * 2 ≤ c * 2 := Nat.mul_le_mul_right _ hc
      omega
  · rw [e] at h
    obtain ⟨_, _, hB⟩ := own_at h (g := b) rfl
    exact hB
/-- A state that is being laid, in block sb. -/
def StAt (sb : Nat) (w : World) (mx : Int) (D : ByteArray) (L : List Wd8) : Prop := ∃ v, w.heap[sb]? = some (.cells #[.int .i64 mx, .string D, v] 46 (0, 0)) ∧ w.ownsRow (sb + 1) 86 2 v L.length (wv L)
def stD (M : Mod7) : ByteArray := zeros (M.pages.toNat * 256)
theorem shape_pages {M : Mod7} (h : shape M = true) : M.gs.length ≤ 6 ∧ 0 ≤ M.pages ∧ M.pages ≤ M.most ∧ M.most ≤ 8 ∧ (M.mem = false → M.pages = 0 ∧ M.most = 0) := by
  unfold shape goodP at h
  simp only [Bool.and_eq_true, decide_eq_true_eq] at h
  obtain ⟨⟨⟨⟨⟨_, h2⟩, _⟩, _⟩, hp⟩, _⟩ := h
  cases hm : M.mem
  · rw [hm] at hp
    simp at hp
    exact ⟨h2, by omega, by omega, by omega, fun _ => hp⟩
  · rw [hm] at hp
    simp at hp
    exact ⟨h2, by omega, by omega, by omega, fun h => by simp at h⟩

set_option maxRecDepth 100000 in
set_option maxHeartbeats 3200000 in
theorem l8FirstS (l : Loc7) (M : Mod7) (w : World) (hM : Hid (ModAt w l M)) (hsh : Hid (shape M = true)) :
    Calls Try.prog 46 #[.agg #[.slice l.fa M.fs.length l.fc, .slice l.ga M.gs.length l.gc, .bool M.mem, .int .i64 M.pages, .int .i64 M.most, .int .i64 M.start]] w fun e w' => ∃ a c, e = .returned (.agg #[.int .i64 M.most, .string (stD M), .slice a (M.gs.map toWd).length c]) ∧ Hid (WdsB w.heap.size w' a (M.gs.map toWd)) ∧ Below w.heap.size w w' := by
  obtain ⟨hg6, hp0, hpm, hm8, hno⟩ := shape_pages hsh.out
  obtain ⟨n, hn⟩ : ∃ n, M.gs.length = n := ⟨_, rfl⟩
  have HN : Hid (M.gs.length = n) := hn
  have hn6 : n ≤ 6 := by omega
  obtain ⟨p, hp⟩ : ∃ p : Nat, M.pages = (p : Int) := ⟨M.pages.toNat, by omega⟩
  obtain ⟨m, hm⟩ : ∃ m : Nat, M.most = (m : Int) := ⟨M.most.toNat, by omega⟩
  have T := newS_yes p m (by omega) (by omega)
  obtain ⟨D, hD⟩ : ∃ D, stD M = D := ⟨_, rfl⟩
  have hDz : zeros (p * 256) = D := by rw [← hD]; unfold stD; rw [hp, Int.toNat_natCast]
  rw [hDz] at T
  obtain ⟨mx, hmx⟩ : ∃ x : Int, (m : Int) = x := ⟨_, rfl⟩
  rw [hmx] at T hm
  have hD0 : M.mem = false → mx = 0 ∧ D = ⟨#[]⟩ := by
    intro h
    have h1 := hno h
    have e : p = 0 := by omega
    refine ⟨by omega, ?_⟩
    rw [← hDz, e]
    rfl
  have HD0 : Hid (M.mem = false → mx = 0 ∧ D = ⟨#[]⟩) := hD0
  obtain ⟨mm, hmm⟩ : ∃ x, M.mem = x := ⟨_, rfl⟩
  rw [hD, hm, hp, hn, hmm]
  have HG : Hid (Glos w l.ga M.gs) := hM.out.2
  obtain ⟨z, hz⟩ : ∃ z, w.heap.size = z := ⟨_, rfl⟩
  obtain ⟨V, hV⟩ : ∃ V, ((w.alloc (.cells #[.slice l.fa M.fs.length l.fc, .slice l.ga n l.gc, .bool mm, .int .i64 (p : Int), .int .i64 mx, .int .i64 M.start] 32)).alloc (.cells #[.int .i64 0, .string ⟨#[]⟩, .slice none 0 0] 46)).alloc (.cells #[.int .i64 0, .string ⟨#[]⟩, .slice none 0 0] 46) = V := ⟨_, rfl⟩
  have hb0 : Below w.heap.size w V := by rw [← hV]; exact bel_alloc (bel_alloc (bel_alloc (Below.refl _ _) _) _) _
  have hx0 : V.heap[z]? = some (.cells #[.slice l.fa M.fs.length l.fc, .slice l.ga n l.gc, .bool mm, .int .i64 (p : Int), .int .i64 mx, .int .i64 M.start] 32 (0, 0)) := by
    rw [← hV, ← hz]
    exact ((Below.heap_alloc _ _ _ (by simp; omega)).trans (Below.heap_alloc _ _ _ (by simp))).trans (heap_alloc_new _ _)
  have hr0 : V.heap[z + 1]? = some (.cells #[.int .i64 0, .string ⟨#[]⟩, .slice none 0 0] 46 (0, 0)) := by
    rw [← hV, ← hz]
    have h := heap_alloc_new (w.alloc (.cells #[.slice l.fa M.fs.length l.fc, .slice l.ga n l.gc, .bool mm, .int .i64 (p : Int), .int .i64 mx, .int .i64 M.start] 32)) (.cells #[.int .i64 0, .string ⟨#[]⟩, .slice none 0 0] 46)
    exact (Below.heap_alloc _ _ _ (by simp)).trans (by simpa using h)
  have hs0 : V.heap[z + 1 + 1]? = some (.cells #[.int .i64 0, .string ⟨#[]⟩, .slice none 0 0] 46 (0, 0)) := by
    rw [← hV, ← hz]
    have h := heap_alloc_new ((w.alloc (.cells #[.slice l.fa M.fs.length l.fc, .slice l.ga n l.gc, .bool mm, .int .i64 (p : Int), .int .i64 mx, .int .i64 M.start] 32)).alloc (.cells #[.int .i64 0, .string ⟨#[]⟩, .slice none 0 0] 46)) (.cells #[.int .i64 0, .string ⟨#[]⟩, .slice none 0 0] 46)
    simpa using h
  have HV : Hid (((w.alloc (.cells #[.slice l.fa M.fs.length l.fc, .slice l.ga n l.gc, .bool mm, .int .i64 (p : Int), .int .i64 mx, .int .i64 M.start] 32)).alloc (.cells #[.int .i64 0, .string ⟨#[]⟩, .slice none 0 0] 46)).alloc (.cells #[.int .i64 0, .string ⟨#[]⟩, .slice none 0 0] 46) = V ∧ w.heap.size = z) := ⟨hV, hz⟩
  have HB0 : Hid (Below w.heap.size w V) := hb0
  have HR0 : Hid (V.heap[z + 1]? = some (.cells #[.int .i64 0, .string ⟨#[]⟩, .slice none 0 0] 46 (0, 0))) := hr0
  have HX0 : Hid (V.heap[z]? = some (.cells #[.slice l.fa M.fs.length l.fc, .slice l.ga n l.gc, .bool mm, .int .i64 (p : Int), .int .i64 mx, .int .i64 M.start] 32 (0, 0))) := hx0
  have HS00 : Hid (V.heap[z + 1 + 1]? = some (.cells #[.int .i64 0, .string ⟨#[]⟩, .slice none 0 0] 46 (0, 0))) := hs0
  have x2 : V.cell? ⟨z, 2, none⟩ = some (.bool mm) := (cell_of_block hx0 2).trans rfl
  have x3 : V.cell? ⟨z, 3, none⟩ = some (.int .i64 (p : Int)) := (cell_of_block hx0 3).trans rfl
  have x4 : V.cell? ⟨z, 4, none⟩ = some (.int .i64 mx) := (cell_of_block hx0 4).trans rfl
  have x1 : V.cell? ⟨z, 1, none⟩ = some (.slice l.ga n l.gc) := (cell_of_block hx0 1).trans rfl
  obtain ⟨sb, hsb⟩ : ∃ s, z + 1 + 1 = s := ⟨_, rfl⟩
  have HSBZ : Hid (z + 1 + 1 = sb) := hsb
  have HWA : Hid (w.heap.size ≤ sb) := by unfold Hid; omega
  have hsV := lt_of_block hs0
  rw [hsb] at hsV
  cases mm
  · have hD0' := hD0 hmm
    clear hn hp hm hD hDz hno hg6 hp0 hpm hm8 hx0 hr0 hs0 hmm hD0 hM hmx T
    rw [← hV, ← hz] at x1 x2
    have HX : Hid (((w.alloc (.cells #[.slice l.fa M.fs.length l.fc, .slice l.ga n l.gc, .bool false, .int .i64 (p : Int), .int .i64 mx, .int .i64 M.start] 32)).alloc (.cells #[.int .i64 0, .string ⟨#[]⟩, .slice none 0 0] 46)).alloc (.cells #[.int .i64 0, .string ⟨#[]⟩, .slice none 0 0] 46) = V ∧ w.heap.size + 1 + 1 = sb) := ⟨hV, by omega⟩
    have HSV : Hid (sb < V.heap.size) := hsV
    obtain ⟨wA, hwA⟩ : ∃ x, V = x := ⟨_, rfl⟩
    have HwA : Hid (Below w.heap.size w wA) := by unfold Hid; rw [← hwA]; exact HB0.out
    have HRA : Hid (wA.heap[z + 1]? = some (.cells #[.int .i64 0, .string ⟨#[]⟩, .slice none 0 0] 46 (0, 0))) := by unfold Hid; rw [← hwA]; exact HR0.out
    have HSB : Hid (sb < wA.heap.size) := by unfold Hid; rw [← hwA]; exact hsV
    have HS0 : Hid (StAt sb wA mx D ((M.gs.map toWd).take 0)) := by
      refine ⟨.slice none 0 0, ?_, World.ownsRow_nil _ _ _ _⟩
      rw [← hwA, ← hsb, hD0'.1, hD0'.2]
      exact HS00.out
    have HVA : Hid (V = wA) := hwA
    clear hwA hV hz hsb hb0 hsV hD0' x3 x4
    go_enter Try.func46, Try.ntmps46
    go_wp2
    rw [HX.out.2, HX.out.1, HVA.out]
    have hz1 : w.heap.size + 1 = z + 1 := by have := HV.out.2; omega
    rw [hz1]
    clear x1 x2 hz1
    go_loopw [21] (fun i wr => ∃ k : Nat, k ≤ n ∧ i = .int .i64 (k : Int) ∧ Hid (StAt sb wr mx D ((M.gs.map toWd).take k)) ∧ Hid (Below sb wA wr ∧ sb < wr.heap.size)) (fun i _ => n - (intOf i).toNat)
    case atStart => exact ⟨0, by omega, rfl, HS0, Below.refl _ _, HSB.out⟩
    case round =>
      obtain ⟨k, hk, rfl, hS, hB⟩ := hrel
      by_cases hlt : k < n
      · have hkG : k < M.gs.length := by have := HN.out; omega
        obtain ⟨b, off, hga, hb, hd⟩ := HG.out.at k hkG
        have htk := take_wd M.gs k hkG
        obtain ⟨y, hy⟩ : ∃ y, y = M.gs[k] := ⟨_, rfl⟩
        rw [← hy] at hd htk
        obtain ⟨t, fx, bb⟩ := y
        obtain ⟨e0, e1, e2⟩ := hd
        simp only at e0 e1 e2 htk
        have hbs : b < sb := Nat.lt_of_lt_of_le hb HWA.out
        have c0 : wr.cell? ⟨b, off + k * 3, none⟩ = some (.int .i64 t) := (hB.out.1.cell (p := ⟨b, off + k * 3, none⟩) hbs).trans ((HwA.out.cell (p := ⟨b, off + k * 3, none⟩) hb).trans e0)
        have c1 : wr.cell? ⟨b, off + k * 3 + 1, none⟩ = some (.bool fx) := (hB.out.1.cell (p := ⟨b, off + k * 3 + 1, none⟩) hbs).trans ((HwA.out.cell (p := ⟨b, off + k * 3 + 1, none⟩) hb).trans e1)
        have c2 : wr.cell? ⟨b, off + k * 3 + 2, none⟩ = some (.int .u64 bb) := (hB.out.1.cell (p := ⟨b, off + k * 3 + 2, none⟩) hbs).trans ((HwA.out.cell (p := ⟨b, off + k * 3 + 2, none⟩) hb).trans e2)
        obtain ⟨v, h0, h1⟩ := hS.out
        have hln : ((M.gs.map toWd).take k).length = k := by rw [List.length_take, List.length_map]; omega
        rw [hln] at h1
        obtain ⟨va, vc, rfl, hvc⟩ := own_shape h1
        obtain ⟨i0, i0i, i00, i01, i02⟩ := info_parts Try.infoWd
        have hA0 : ((wr.alloc (.cells #[.int .i64 t, .bool fx, .int .u64 bb] 79)).alloc (.cells #[.int .i64 t, .int .u64 bb] 86)).heap[sb]? = some (.cells #[.int .i64 mx, .string D, .slice va k vc] 46 (0, 0)) := ((Below.heap_alloc _ _ _ (by simp; have := hB.out.2; omega)).trans (Below.heap_alloc _ _ _ hB.out.2)).trans h0
        have d2 : (wr.alloc (.cells #[.int .i64 t, .bool fx, .int .u64 bb] 79)).cell? ⟨sb, 2, none⟩ = some (.slice va k vc) := (cell_of_block ((Below.heap_alloc _ _ _ hB.out.2).trans h0) 2).trans rfl
        have HO : Hid (wr.ownsRow (sb + 1) 86 2 (.slice va k vc) k (wv ((M.gs.map toWd).take k))) := h1
        have HA0 : Hid (((wr.alloc (.cells #[.int .i64 t, .bool fx, .int .u64 bb] 79)).alloc (.cells #[.int .i64 t, .int .u64 bb] 86)).heap[sb]? = some (.cells #[.int .i64 mx, .string D, .slice va k vc] 46 (0, 0))) := hA0
        have HTK : Hid ((M.gs.map toWd).take (k + 1) = (M.gs.map toWd).take k ++ [⟨t, bb⟩]) := htk
        have hkb : k ≤ 1000 := by omega
        have HKB : Hid (k ≤ 1000) := hkb
        have hkn : (k : Int) < (n : Int) := by omega
        rw [hga]
        clear hA0 h0 h1 e0 e1 e2 hy htk hln hvc hb hbs hga hS
        go_wp2_with (at_builtin; refine wpList_append_lies _ rfl _ _ 44 rfl (sb + 1) 86 i0 (.agg #[.int .i64 0, .int .u64 0]) 2 16 Try.underlying44 i0i i00 i01 i02 rfl (by decide) _ _ _ rfl (((HO.out).alloc _).alloc _) ⟨wr.heap.size + 1, 0, none⟩ 1 1 [.int .i64 t, .int .u64 bb] rfl rfl (pair_new _ _ _ _ _ (by simp)) (by intro u hu; simp at hu; rcases hu with rfl | rfl <;> rfl) (by decide) (by have := HKB.out; unfold maxLen; omega) (by have := HKB.out; omega) (by have := hB.out.2; simp; omega) (wr.heap.size + 1 + 1) (by simp) ?_)
        intro gs cs' w1 hown hgrow hlie hlt1
        have hg1 := grow_block (((HO.out).alloc _).alloc _) hgrow HA0.out
        have hbe : Below sb wr ((wr.alloc (.cells #[.int .i64 t, .bool fx, .int .u64 bb] 79)).alloc (.cells #[.int .i64 t, .int .u64 bb] 86)) := ((Below.refl _ _).alloc (by have := hB.out.2; omega) _).alloc (by have := hB.out.2; simp; omega) _
        have hb1 : Below sb wA w1 := grow_below (((HO.out).alloc _).alloc _) hgrow (hB.out.1.trans hbe) (Nat.le_refl _) (by have := hB.out.2; simp; omega)
        have q2 : w1.cell? ⟨sb, 2, none⟩ = some (.slice va k vc) := (cell_of_block hg1 2).trans rfl
        have f2 : w1.frozen? ⟨sb, 2, none⟩ = false := free_of_block hg1 2
        have HS1 : Hid (StAt sb (w1.setCell ⟨sb, 2, none⟩ (.slice (some ⟨gs, 0, none⟩) (k + 1) cs')) mx D ((M.gs.map toWd).take (k + 1))) := by
          refine ⟨.slice (some ⟨gs, 0, none⟩) (k + 1) cs', heap_setCell_same _ _ _ _ _ _ hg1, ?_⟩
          rw [HTK.out, List.length_append, wv_app]
          have hln2 : ((M.gs.map toWd).take k).length = k := by rw [List.length_take, List.length_map]; omega
          rw [hln2]
          exact own_keep hown fun b hb => by obtain ⟨_, _, hB⟩ := own_at hown hb; exact heap_setCell_other _ ⟨sb, 2, none⟩ b _ (show b ≠ sb by omega)
        have HB1 : Hid (Below sb wA (w1.setCell ⟨sb, 2, none⟩ (.slice (some ⟨gs, 0, none⟩) (k + 1) cs')) ∧ sb < (w1.setCell ⟨sb, 2, none⟩ (.slice (some ⟨gs, 0, none⟩) (k + 1) cs')).heap.size) := ⟨hb1.setCell (Nat.le_refl _) _, by have := lt_of_block hg1; simpa [World.setCell] using this⟩
        clear hown hgrow hlie hlt1 hg1 hb1 hbe c0 c1 c2 d2 HO HA0
        go_wp2
        go_roundw
        case rel => exact ⟨k + 1, by omega, by go_num, HS1, HB1⟩
        case measure => simp [intOf]; omega
      · obtain ⟨v, h0, h1⟩ := hS.out
        have hkn : k = n := by omega
        have htk : (M.gs.map toWd).take k = M.gs.map toWd := List.take_of_length_le (by have := HN.out; rw [List.length_map]; omega)
        rw [htk] at h1
        obtain ⟨va, vc, rfl, _⟩ := own_shape h1
        have hwb := own_wds h1
        have hbr := hB.out.1
        have hr1 := (hbr.block (z + 1) (by have := HSBZ.out; omega)).trans HRA.out
        have s0 : wr.cell? ⟨sb, 0, none⟩ = some (.int .i64 mx) := (cell_of_block h0 0).trans rfl
        have s1 : wr.cell? ⟨sb, 1, none⟩ = some (.string D) := (cell_of_block h0 1).trans rfl
        have s2 : wr.cell? ⟨sb, 2, none⟩ = some (.slice va (M.gs.map toWd).length vc) := (cell_of_block h0 2).trans rfl
        have q0 := (cell_of_block hr1 0).trans rfl
        have q1 := (cell_of_block hr1 1).trans rfl
        have q2 := (cell_of_block hr1 2).trans rfl
        have k0 := free_of_block hr1 0
        have k1 := free_of_block hr1 1
        have k2 := free_of_block hr1 2
        have hle : w.heap.size ≤ z + 1 := by have := HV.out.2; omega
        have HBR : Hid (Below w.heap.size w wr) := HwA.out.trans (hbr.mono HWA.out)
        have HWB : Hid (WdsB (sb + 1) wr va (M.gs.map toWd)) := hwb
        clear hbr hr1 h0 h1 hwb hS
        go_wp2
        refine bodyPost_ret (v := .agg #[.int .i64 mx, .string D, .slice va (M.gs.map toWd).length vc]) (by simp [results, Try.results46, go_sem, q0, q1, q2]) rfl ⟨va, vc, rfl, ?_, ?_⟩
        · have hz1 : z + 1 < sb + 1 := by have := HSBZ.out; omega
          exact (((HWB.out.set hz1 _ _).set hz1 _ _).set hz1 _ _).low (by have := HSBZ.out; omega)
        · exact ((HBR.out.setCell hle _).setCell hle _).setCell hle _
  · clear hn hp hm hD hDz hno hg6 hp0 hpm hm8 hx0 hr0 hs0 hmm hD0 hM hmx hb0
    have HSV : Hid (sb < V.heap.size) := hsV
    have HX : Hid (((w.alloc (.cells #[.slice l.fa M.fs.length l.fc, .slice l.ga n l.gc, .bool true, .int .i64 (p : Int), .int .i64 mx, .int .i64 M.start] 32)).alloc (.cells #[.int .i64 0, .string ⟨#[]⟩, .slice none 0 0] 46)).alloc (.cells #[.int .i64 0, .string ⟨#[]⟩, .slice none 0 0] 46) = V ∧ w.heap.size + 1 + 1 = sb ∧ w.heap.size = z) := ⟨hV, by omega, hz⟩
    rw [← hV, ← hz] at x2 x3 x4
    clear hV hz hsb hsV x1
    go_enter Try.func46, Try.ntmps46
    go_wp2_with fail
    rw [HX.out.2.1, HX.out.1, HX.out.2.2]
    refine (T _).mono ?_
    rintro e w1 ⟨rfl, hb1⟩
    have hx1 := (hb1.block z (lt_of_block HX0.out)).trans HX0.out
    have hr1 := (hb1.block (z + 1) (lt_of_block HR0.out)).trans HR0.out
    have hs1 := (hb1.block (z + 1 + 1) (lt_of_block HS00.out)).trans HS00.out
    rw [HSBZ.out] at hs1
    have HB1 : Hid (Below w.heap.size w w1) := bel_step HB0.out hb1
    have d0 := (cell_of_block hs1 0).trans rfl
    have d1 := (cell_of_block hs1 1).trans rfl
    have f0 := free_of_block hs1 0
    have f1 := free_of_block hs1 1
    obtain ⟨wA, hwA⟩ : ∃ x, (w1.setCell ⟨sb, 0, none⟩ (.int .i64 mx)).setCell ⟨sb, 1, none⟩ (.string D) = x := ⟨_, rfl⟩
    have hsA : wA.heap[sb]? = some (.cells #[.int .i64 mx, .string D, .slice none 0 0] 46 (0, 0)) := by rw [← hwA]; exact heap_setCell_same _ _ _ _ _ _ (heap_setCell_same _ _ _ _ _ _ hs1)
    have hxA : wA.heap[z]? = some (.cells #[.slice l.fa M.fs.length l.fc, .slice l.ga n l.gc, .bool true, .int .i64 (p : Int), .int .i64 mx, .int .i64 M.start] 32 (0, 0)) := by rw [← hwA]; exact (heap_setCell_other _ ⟨sb, 1, none⟩ z _ (show z ≠ sb by have := HSBZ.out; omega)).trans ((heap_setCell_other _ ⟨sb, 0, none⟩ z _ (show z ≠ sb by have := HSBZ.out; omega)).trans hx1)
    have HwA : Hid (Below w.heap.size w wA) := by unfold Hid; rw [← hwA]; exact (HB1.out.setCell HWA.out _).setCell HWA.out _
    have HRA : Hid (wA.heap[z + 1]? = some (.cells #[.int .i64 0, .string ⟨#[]⟩, .slice none 0 0] 46 (0, 0))) := by unfold Hid; rw [← hwA]; exact (heap_setCell_other _ ⟨sb, 1, none⟩ (z + 1) _ (show z + 1 ≠ sb by have := HSBZ.out; omega)).trans ((heap_setCell_other _ ⟨sb, 0, none⟩ (z + 1) _ (show z + 1 ≠ sb by have := HSBZ.out; omega)).trans hr1)
    have HSB : Hid (sb < wA.heap.size) := lt_of_block hsA
    have HS0 : Hid (StAt sb wA mx D ((M.gs.map toWd).take 0)) := ⟨.slice none 0 0, hsA, World.ownsRow_nil _ _ _ _⟩
    have x1 : ((w1.setCell ⟨sb, 0, none⟩ (.int .i64 mx)).setCell ⟨sb, 1, none⟩ (.string D)).cell? ⟨z, 1, none⟩ = some (.slice l.ga n l.gc) := by rw [hwA]; exact (cell_of_block hxA 1).trans rfl
    have HA : Hid ((w1.setCell ⟨sb, 0, none⟩ (.int .i64 mx)).setCell ⟨sb, 1, none⟩ (.string D) = wA) := hwA
    clear hb1 hx1 hr1 hs1 hwA hsA hxA x2 x3 x4 T
    go_wp2
    rw [HA.out]
    clear x1 d0 d1 f0 f1
    go_loopw [21] (fun i wr => ∃ k : Nat, k ≤ n ∧ i = .int .i64 (k : Int) ∧ Hid (StAt sb wr mx D ((M.gs.map toWd).take k)) ∧ Hid (Below sb wA wr ∧ sb < wr.heap.size)) (fun i _ => n - (intOf i).toNat)
    case atStart => exact ⟨0, by omega, rfl, HS0, Below.refl _ _, HSB.out⟩
    case round =>
      obtain ⟨k, hk, rfl, hS, hB⟩ := hrel
      by_cases hlt : k < n
      · have hkG : k < M.gs.length := by have := HN.out; omega
        obtain ⟨b, off, hga, hb, hd⟩ := HG.out.at k hkG
        have htk := take_wd M.gs k hkG
        obtain ⟨y, hy⟩ : ∃ y, y = M.gs[k] := ⟨_, rfl⟩
        rw [← hy] at hd htk
        obtain ⟨t, fx, bb⟩ := y
        obtain ⟨e0, e1, e2⟩ := hd
        simp only at e0 e1 e2 htk
        have hbs : b < sb := Nat.lt_of_lt_of_le hb HWA.out
        have c0 : wr.cell? ⟨b, off + k * 3, none⟩ = some (.int .i64 t) := (hB.out.1.cell (p := ⟨b, off + k * 3, none⟩) hbs).trans ((HwA.out.cell (p := ⟨b, off + k * 3, none⟩) hb).trans e0)
        have c1 : wr.cell? ⟨b, off + k * 3 + 1, none⟩ = some (.bool fx) := (hB.out.1.cell (p := ⟨b, off + k * 3 + 1, none⟩) hbs).trans ((HwA.out.cell (p := ⟨b, off + k * 3 + 1, none⟩) hb).trans e1)
        have c2 : wr.cell? ⟨b, off + k * 3 + 2, none⟩ = some (.int .u64 bb) := (hB.out.1.cell (p := ⟨b, off + k * 3 + 2, none⟩) hbs).trans ((HwA.out.cell (p := ⟨b, off + k * 3 + 2, none⟩) hb).trans e2)
        obtain ⟨v, h0, h1⟩ := hS.out
        have hln : ((M.gs.map toWd).take k).length = k := by rw [List.length_take, List.length_map]; omega
        rw [hln] at h1
        obtain ⟨va, vc, rfl, hvc⟩ := own_shape h1
        obtain ⟨i0, i0i, i00, i01, i02⟩ := info_parts Try.infoWd
        have hA0 : ((wr.alloc (.cells #[.int .i64 t, .bool fx, .int .u64 bb] 79)).alloc (.cells #[.int .i64 t, .int .u64 bb] 86)).heap[sb]? = some (.cells #[.int .i64 mx, .string D, .slice va k vc] 46 (0, 0)) := ((Below.heap_alloc _ _ _ (by simp; have := hB.out.2; omega)).trans (Below.heap_alloc _ _ _ hB.out.2)).trans h0
        have d2 : (wr.alloc (.cells #[.int .i64 t, .bool fx, .int .u64 bb] 79)).cell? ⟨sb, 2, none⟩ = some (.slice va k vc) := (cell_of_block ((Below.heap_alloc _ _ _ hB.out.2).trans h0) 2).trans rfl
        have HO : Hid (wr.ownsRow (sb + 1) 86 2 (.slice va k vc) k (wv ((M.gs.map toWd).take k))) := h1
        have HA0 : Hid (((wr.alloc (.cells #[.int .i64 t, .bool fx, .int .u64 bb] 79)).alloc (.cells #[.int .i64 t, .int .u64 bb] 86)).heap[sb]? = some (.cells #[.int .i64 mx, .string D, .slice va k vc] 46 (0, 0))) := hA0
        have HTK : Hid ((M.gs.map toWd).take (k + 1) = (M.gs.map toWd).take k ++ [⟨t, bb⟩]) := htk
        have hkb : k ≤ 1000 := by omega
        have HKB : Hid (k ≤ 1000) := hkb
        have hkn : (k : Int) < (n : Int) := by omega
        rw [hga]
        clear hA0 h0 h1 e0 e1 e2 hy htk hln hvc hb hbs hga hS
        go_wp2_with (at_builtin; refine wpList_append_lies _ rfl _ _ 44 rfl (sb + 1) 86 i0 (.agg #[.int .i64 0, .int .u64 0]) 2 16 Try.underlying44 i0i i00 i01 i02 rfl (by decide) _ _ _ rfl (((HO.out).alloc _).alloc _) ⟨wr.heap.size + 1, 0, none⟩ 1 1 [.int .i64 t, .int .u64 bb] rfl rfl (pair_new _ _ _ _ _ (by simp)) (by intro u hu; simp at hu; rcases hu with rfl | rfl <;> rfl) (by decide) (by have := HKB.out; unfold maxLen; omega) (by have := HKB.out; omega) (by have := hB.out.2; simp; omega) (wr.heap.size + 1 + 1) (by simp) ?_)
        intro gs cs' w1 hown hgrow hlie hlt1
        have hg1 := grow_block (((HO.out).alloc _).alloc _) hgrow HA0.out
        have hbe : Below sb wr ((wr.alloc (.cells #[.int .i64 t, .bool fx, .int .u64 bb] 79)).alloc (.cells #[.int .i64 t, .int .u64 bb] 86)) := ((Below.refl _ _).alloc (by have := hB.out.2; omega) _).alloc (by have := hB.out.2; simp; omega) _
        have hb1 : Below sb wA w1 := grow_below (((HO.out).alloc _).alloc _) hgrow (hB.out.1.trans hbe) (Nat.le_refl _) (by have := hB.out.2; simp; omega)
        have q2 : w1.cell? ⟨sb, 2, none⟩ = some (.slice va k vc) := (cell_of_block hg1 2).trans rfl
        have f2 : w1.frozen? ⟨sb, 2, none⟩ = false := free_of_block hg1 2
        have HS1 : Hid (StAt sb (w1.setCell ⟨sb, 2, none⟩ (.slice (some ⟨gs, 0, none⟩) (k + 1) cs')) mx D ((M.gs.map toWd).take (k + 1))) := by
          refine ⟨.slice (some ⟨gs, 0, none⟩) (k + 1) cs', heap_setCell_same _ _ _ _ _ _ hg1, ?_⟩
          rw [HTK.out, List.length_append, wv_app]
          have hln2 : ((M.gs.map toWd).take k).length = k := by rw [List.length_take, List.length_map]; omega
          rw [hln2]
          exact own_keep hown fun b hb => by obtain ⟨_, _, hB⟩ := own_at hown hb; exact heap_setCell_other _ ⟨sb, 2, none⟩ b _ (show b ≠ sb by omega)
        have HB1 : Hid (Below sb wA (w1.setCell ⟨sb, 2, none⟩ (.slice (some ⟨gs, 0, none⟩) (k + 1) cs')) ∧ sb < (w1.setCell ⟨sb, 2, none⟩ (.slice (some ⟨gs, 0, none⟩) (k + 1) cs')).heap.size) := ⟨hb1.setCell (Nat.le_refl _) _, by have := lt_of_block hg1; simpa [World.setCell] using this⟩
        clear hown hgrow hlie hlt1 hg1 hb1 hbe c0 c1 c2 d2 HO HA0
        go_wp2
        go_roundw
        case rel => exact ⟨k + 1, by omega, by go_num, HS1, HB1⟩
        case measure => simp [intOf]; omega
      · obtain ⟨v, h0, h1⟩ := hS.out
        have hkn : k = n := by omega
        have htk : (M.gs.map toWd).take k = M.gs.map toWd := List.take_of_length_le (by have := HN.out; rw [List.length_map]; omega)
        rw [htk] at h1
        obtain ⟨va, vc, rfl, _⟩ := own_shape h1
        have hwb := own_wds h1
        have hbr := hB.out.1
        have hr1 := (hbr.block (z + 1) (by have := HSBZ.out; omega)).trans HRA.out
        have s0 : wr.cell? ⟨sb, 0, none⟩ = some (.int .i64 mx) := (cell_of_block h0 0).trans rfl
        have s1 : wr.cell? ⟨sb, 1, none⟩ = some (.string D) := (cell_of_block h0 1).trans rfl
        have s2 : wr.cell? ⟨sb, 2, none⟩ = some (.slice va (M.gs.map toWd).length vc) := (cell_of_block h0 2).trans rfl
        have q0 := (cell_of_block hr1 0).trans rfl
        have q1 := (cell_of_block hr1 1).trans rfl
        have q2 := (cell_of_block hr1 2).trans rfl
        have k0 := free_of_block hr1 0
        have k1 := free_of_block hr1 1
        have k2 := free_of_block hr1 2
        have hle : w.heap.size ≤ z + 1 := by have := HV.out.2; omega
        have HBR : Hid (Below w.heap.size w wr) := HwA.out.trans (hbr.mono HWA.out)
        have HWB : Hid (WdsB (sb + 1) wr va (M.gs.map toWd)) := hwb
        clear hbr hr1 h0 h1 hwb hS
        go_wp2
        refine bodyPost_ret (v := .agg #[.int .i64 mx, .string D, .slice va (M.gs.map toWd).length vc]) (by simp [results, Try.results46, go_sem, q0, q1, q2]) rfl ⟨va, vc, rfl, ?_, ?_⟩
        · have hz1 : z + 1 < sb + 1 := by have := HSBZ.out; omega
          exact (((HWB.out.set hz1 _ _).set hz1 _ _).set hz1 _ _).low (by have := HSBZ.out; omega)
        · exact ((HBR.out.setCell hle _).setCell hle _).setCell hle _

end Go.Proofs.Ytbliopgdkphoaaa

namespace Go.Proofs.Ytbliopgdkphoaaa
open Go.ChangeShapes Go.WideShapes Go.ChangeAt Go.RowKit

def fMx (M : Mod7) : Int := if shape M = true then M.most else 0
def fD (M : Mod7) : ByteArray := if shape M = true then stD M else ⟨#[]⟩
def fL (M : Mod7) : List Wd8 := if shape M = true then M.gs.map toWd else []
theorem wdsB_nil (B : Nat) (w : World) (a : Option Addr) : WdsB B w a [] := ⟨fun h => absurd rfl h, fun h => absurd h (by simp), fun _ h _ => absurd h (by simp)⟩

set_option maxRecDepth 100000 in
set_option maxHeartbeats 3200000 in
theorem firstS (l : Loc7) (M : Mod7) (w : World) (hM : Hid (ModAt w l M)) (hs : Hid (smM M)) :
    Calls Try.prog 20 #[.agg #[.slice l.fa M.fs.length l.fc, .slice l.ga M.gs.length l.gc, .bool M.mem, .int .i64 M.pages, .int .i64 M.most, .int .i64 M.start]] w fun e w' => ∃ a c, e = .returned (.tuple #[.agg #[.int .i64 (fMx M), .string (fD M), .slice a (fL M).length c], .bool (shape M)]) ∧ Hid (WdsB w.heap.size w' a (fL M)) ∧ Below w.heap.size w w' := by
  have T2 := specShapeM l M
  obtain ⟨sh, hsh⟩ : ∃ x, shape M = x := ⟨_, rfl⟩
  have HSH : Hid (shape M = sh) := hsh
  have HM : Hid (ModAt w l M) := hM.out
  have HT2 : Hid (∀ w', Below w.heap.size w w' → Calls Try.prog 16 #[modV l M] w' fun e w'' => e = .returned (.bool (shape M)) ∧ Below w'.heap.size w' w'') := fun w' hb => specShapeM l M w' (hM.out.below hb) hs
  clear hsh T2
  obtain ⟨z, hz⟩ : ∃ z, w.heap.size = z := ⟨_, rfl⟩
  obtain ⟨V, hV⟩ : ∃ V, (w.alloc (.cells #[.slice l.fa M.fs.length l.fc, .slice l.ga M.gs.length l.gc, .bool M.mem, .int .i64 M.pages, .int .i64 M.most, .int .i64 M.start] 32)).alloc (.cells #[.int .i64 0, .string ⟨#[]⟩, .slice none 0 0] 46) = V := ⟨_, rfl⟩
  have hb0 : Below w.heap.size w V := by rw [← hV]; exact bel_alloc (bel_alloc (Below.refl _ _) _) _
  have hx0 : V.heap[z]? = some (.cells #[.slice l.fa M.fs.length l.fc, .slice l.ga M.gs.length l.gc, .bool M.mem, .int .i64 M.pages, .int .i64 M.most, .int .i64 M.start] 32 (0, 0)) := by rw [← hV, ← hz]; exact (Below.heap_alloc _ _ _ (by simp)).trans (heap_alloc_new _ _)
  have hr0 : V.heap[z + 1]? = some (.cells #[.int .i64 0, .string ⟨#[]⟩, .slice none 0 0] 46 (0, 0)) := by
    rw [← hV, ← hz]
    have h := heap_alloc_new (w.alloc (.cells #[.slice l.fa M.fs.length l.fc, .slice l.ga M.gs.length l.gc, .bool M.mem, .int .i64 M.pages, .int .i64 M.most, .int .i64 M.start] 32)) (.cells #[.int .i64 0, .string ⟨#[]⟩, .slice none 0 0] 46)
    simpa using h
  have HV : Hid ((w.alloc (.cells #[.slice l.fa M.fs.length l.fc, .slice l.ga M.gs.length l.gc, .bool M.mem, .int .i64 M.pages, .int .i64 M.most, .int .i64 M.start] 32)).alloc (.cells #[.int .i64 0, .string ⟨#[]⟩, .slice none 0 0] 46) = V ∧ w.heap.size = z) := ⟨hV, hz⟩
  have HB0 : Hid (Below w.heap.size w V) := hb0
  have HX0 : Hid (V.heap[z]? = some (.cells #[.slice l.fa M.fs.length l.fc, .slice l.ga M.gs.length l.gc, .bool M.mem, .int .i64 M.pages, .int .i64 M.most, .int .i64 M.start] 32 (0, 0))) := hx0
  have HR0 : Hid (V.heap[z + 1]? = some (.cells #[.int .i64 0, .string ⟨#[]⟩, .slice none 0 0] 46 (0, 0))) := hr0
  have hle : w.heap.size ≤ z + 1 := by omega
  have HLE : Hid (w.heap.size ≤ z + 1) := hle
  clear hV hz hb0 hx0 hr0 hle
  go_enter Try.func20, Try.ntmps20
  go_wp2_with fail
  rw [HV.out.2, HV.out.1]
  refine (HT2.out V HB0.out).mono ?_
  rintro e w1 ⟨rfl, hb1⟩
  rw [HSH.out]
  have HB1 : Hid (Below w.heap.size w w1) := bel_step HB0.out hb1
  have hx1 := (hb1.block z (lt_of_block HX0.out)).trans HX0.out
  have hr1 := (hb1.block (z + 1) (lt_of_block HR0.out)).trans HR0.out
  have HM1 : Hid (ModAt w1 l M) := HM.out.below HB1.out
  clear hb1 HT2
  cases sh
  · have H1 : Hid (fMx M = 0 ∧ fD M = ⟨#[]⟩ ∧ fL M = []) := by unfold Hid fMx fD fL; rw [HSH.out]; simp
    have q0 : w1.cell? ⟨z + 1, 0, none⟩ = some (.int .i64 0) := (cell_of_block hr1 0).trans rfl
    have q1 : w1.cell? ⟨z + 1, 1, none⟩ = some (.string ⟨#[]⟩) := (cell_of_block hr1 1).trans rfl
    have q2 : w1.cell? ⟨z + 1, 2, none⟩ = some (.slice none 0 0) := (cell_of_block hr1 2).trans rfl
    have k0 := free_of_block hr1 0
    have k1 := free_of_block hr1 1
    have k2 := free_of_block hr1 2
    clear hx1 hr1
    go_wp2
    refine bodyPost_ret (v := .tuple #[.agg #[.int .i64 0, .string ⟨#[]⟩, .slice none 0 0], .bool false]) (by simp [results, Try.results20, go_sem, q0, q1, q2]) rfl ⟨none, 0, ?_, ?_, ?_⟩
    · rw [H1.out.1, H1.out.2.1, H1.out.2.2, HSH.out]; try rfl
    · rw [H1.out.2.2]; exact wdsB_nil _ _ _
    · exact ((HB1.out.setCell HLE.out _).setCell HLE.out _).setCell HLE.out _
  · have H1 : Hid (fMx M = M.most ∧ fD M = stD M ∧ fL M = M.gs.map toWd) := by unfold Hid fMx fD fL; rw [HSH.out]; simp
    have x0 := (cell_of_block hx1 0).trans rfl
    have x1 := (cell_of_block hx1 1).trans rfl
    have x2 := (cell_of_block hx1 2).trans rfl
    have x3 := (cell_of_block hx1 3).trans rfl
    have x4 := (cell_of_block hx1 4).trans rfl
    have x5 := (cell_of_block hx1 5).trans rfl
    have hz1 := lt_of_block hr1
    have T3 := l8FirstS l M w1 HM1 HSH
    go_wp2_with fail
    refine T3.mono ?_
    rintro e w2 ⟨a, c, rfl, hwb, hb2⟩
    have HB2 : Hid (Below w.heap.size w w2) := bel_step HB1.out hb2
    have hr2 := (hb2.block (z + 1) hz1).trans hr1
    have q0 : w2.cell? ⟨z + 1, 0, none⟩ = some (.int .i64 0) := (cell_of_block hr2 0).trans rfl
    have q1 : w2.cell? ⟨z + 1, 1, none⟩ = some (.string ⟨#[]⟩) := (cell_of_block hr2 1).trans rfl
    have q2 : w2.cell? ⟨z + 1, 2, none⟩ = some (.slice none 0 0) := (cell_of_block hr2 2).trans rfl
    have k0 := free_of_block hr2 0
    have k1 := free_of_block hr2 1
    have k2 := free_of_block hr2 2
    have HZ1 : Hid (z + 1 < w1.heap.size ∧ w.heap.size ≤ w1.heap.size) := ⟨hz1, HB1.out.size⟩
    clear T3 hb2 hx1 hr1 hr2 x0 x1 x2 x3 x4 x5 hz1
    go_wp2
    refine bodyPost_ret (v := .tuple #[.agg #[.int .i64 M.most, .string (stD M), .slice a (M.gs.map toWd).length c], .bool true]) (by simp [results, Try.results20, go_sem, q0, q1, q2]) rfl ⟨a, c, ?_, ?_, ?_⟩
    · rw [H1.out.1, H1.out.2.1, H1.out.2.2, HSH.out]; try rfl
    · rw [H1.out.2.2]
      exact (((hwb.out.set HZ1.out.1 _ _).set HZ1.out.1 _ _).set HZ1.out.1 _ _).low HZ1.out.2
    · exact ((HB2.out.setCell HLE.out _).setCell HLE.out _).setCell HLE.out _

set_option maxRecDepth 100000 in
set_option maxHeartbeats 3200000 in
theorem firstI (l : Loc7) (M : Mod7) (w : World) (hM : Hid (ModAt w l M)) (hs : Hid (smM M)) :
    Calls Try.prog 21 #[.agg #[.slice l.fa M.fs.length l.fc, .slice l.ga M.gs.length l.gc, .bool M.mem, .int .i64 M.pages, .int .i64 M.most, .int .i64 M.start]] w fun e w' => ∃ a c, e = .returned (.tuple #[.agg #[.int .i64 (fMx M), .string (fD M), .slice a (fL M).length c], .bool (shape M)]) ∧ Hid (WdsB w.heap.size w' a (fL M)) ∧ Below w.heap.size w w' := by
  have T2 := implShape l M
  obtain ⟨sh, hsh⟩ : ∃ x, shape M = x := ⟨_, rfl⟩
  have HSH : Hid (shape M = sh) := hsh
  have HM : Hid (ModAt w l M) := hM.out
  have HT2 : Hid (∀ w', Below w.heap.size w w' → Calls Try.prog 17 #[modV l M] w' fun e w'' => e = .returned (.bool (shape M)) ∧ Below w'.heap.size w' w'') := fun w' hb => implShape l M w' (hM.out.below hb) hs
  clear hsh T2
  obtain ⟨z, hz⟩ : ∃ z, w.heap.size = z := ⟨_, rfl⟩
  obtain ⟨V, hV⟩ : ∃ V, (w.alloc (.cells #[.slice l.fa M.fs.length l.fc, .slice l.ga M.gs.length l.gc, .bool M.mem, .int .i64 M.pages, .int .i64 M.most, .int .i64 M.start] 32)).alloc (.cells #[.int .i64 0, .string ⟨#[]⟩, .slice none 0 0] 46) = V := ⟨_, rfl⟩
  have hb0 : Below w.heap.size w V := by rw [← hV]; exact bel_alloc (bel_alloc (Below.refl _ _) _) _
  have hx0 : V.heap[z]? = some (.cells #[.slice l.fa M.fs.length l.fc, .slice l.ga M.gs.length l.gc, .bool M.mem, .int .i64 M.pages, .int .i64 M.most, .int .i64 M.start] 32 (0, 0)) := by rw [← hV, ← hz]; exact (Below.heap_alloc _ _ _ (by simp)).trans (heap_alloc_new _ _)
  have hr0 : V.heap[z + 1]? = some (.cells #[.int .i64 0, .string ⟨#[]⟩, .slice none 0 0] 46 (0, 0)) := by
    rw [← hV, ← hz]
    have h := heap_alloc_new (w.alloc (.cells #[.slice l.fa M.fs.length l.fc, .slice l.ga M.gs.length l.gc, .bool M.mem, .int .i64 M.pages, .int .i64 M.most, .int .i64 M.start] 32)) (.cells #[.int .i64 0, .string ⟨#[]⟩, .slice none 0 0] 46)
    simpa using h
  have HV : Hid ((w.alloc (.cells #[.slice l.fa M.fs.length l.fc, .slice l.ga M.gs.length l.gc, .bool M.mem, .int .i64 M.pages, .int .i64 M.most, .int .i64 M.start] 32)).alloc (.cells #[.int .i64 0, .string ⟨#[]⟩, .slice none 0 0] 46) = V ∧ w.heap.size = z) := ⟨hV, hz⟩
  have HB0 : Hid (Below w.heap.size w V) := hb0
  have HX0 : Hid (V.heap[z]? = some (.cells #[.slice l.fa M.fs.length l.fc, .slice l.ga M.gs.length l.gc, .bool M.mem, .int .i64 M.pages, .int .i64 M.most, .int .i64 M.start] 32 (0, 0))) := hx0
  have HR0 : Hid (V.heap[z + 1]? = some (.cells #[.int .i64 0, .string ⟨#[]⟩, .slice none 0 0] 46 (0, 0))) := hr0
  have hle : w.heap.size ≤ z + 1 := by omega
  have HLE : Hid (w.heap.size ≤ z + 1) := hle
  clear hV hz hb0 hx0 hr0 hle
  go_enter Try.func21, Try.ntmps21
  go_wp2_with fail
  rw [HV.out.2, HV.out.1]
  refine (HT2.out V HB0.out).mono ?_
  rintro e w1 ⟨rfl, hb1⟩
  rw [HSH.out]
  have HB1 : Hid (Below w.heap.size w w1) := bel_step HB0.out hb1
  have hx1 := (hb1.block z (lt_of_block HX0.out)).trans HX0.out
  have hr1 := (hb1.block (z + 1) (lt_of_block HR0.out)).trans HR0.out
  clear hb1 HT2
  cases sh
  · have H1 : Hid (fMx M = 0 ∧ fD M = ⟨#[]⟩ ∧ fL M = []) := by unfold Hid fMx fD fL; rw [HSH.out]; simp
    have q0 : w1.cell? ⟨z + 1, 0, none⟩ = some (.int .i64 0) := (cell_of_block hr1 0).trans rfl
    have q1 : w1.cell? ⟨z + 1, 1, none⟩ = some (.string ⟨#[]⟩) := (cell_of_block hr1 1).trans rfl
    have q2 : w1.cell? ⟨z + 1, 2, none⟩ = some (.slice none 0 0) := (cell_of_block hr1 2).trans rfl
    have k0 := free_of_block hr1 0
    have k1 := free_of_block hr1 1
    have k2 := free_of_block hr1 2
    clear hx1 hr1
    go_wp2
    refine bodyPost_ret (v := .tuple #[.agg #[.int .i64 0, .string ⟨#[]⟩, .slice none 0 0], .bool false]) (by simp [results, Try.results21, go_sem, q0, q1, q2]) rfl ⟨none, 0, ?_, ?_, ?_⟩
    · rw [H1.out.1, H1.out.2.1, H1.out.2.2, HSH.out]; try rfl
    · rw [H1.out.2.2]; exact wdsB_nil _ _ _
    · exact ((HB1.out.setCell HLE.out _).setCell HLE.out _).setCell HLE.out _
  · obtain ⟨hg6, hp0, hpm, hm8, _⟩ := shape_pages HSH.out
    obtain ⟨n, hn⟩ : ∃ n, M.gs.length = n := ⟨_, rfl⟩
    have HN : Hid (M.gs.length = n) := hn
    have hn6 : n ≤ 6 := by omega
    clear hn
    obtain ⟨p, hp⟩ : ∃ p : Nat, M.pages = (p : Int) := ⟨M.pages.toNat, by omega⟩
    obtain ⟨m, hm⟩ : ∃ m : Nat, M.most = (m : Int) := ⟨M.most.toNat, by omega⟩
    have T := newI_yes p m (by omega) (by omega)
    obtain ⟨D, hD⟩ : ∃ D, stD M = D := ⟨_, rfl⟩
    have hDz : zeros (p * 256) = D := by rw [← hD]; unfold stD; rw [hp, Int.toNat_natCast]
    rw [hDz, ← hm, ← hp] at T
    obtain ⟨mx, hmx⟩ : ∃ x : Int, M.most = x := ⟨_, rfl⟩
    have H1 : Hid (fMx M = mx ∧ fD M = D ∧ fL M = M.gs.map toWd) := by unfold Hid fMx fD fL; rw [HSH.out, ← hD, ← hmx]; simp
    have HG : Hid (Glos w l.ga M.gs) := HM.out.2
    have x3 : w1.cell? ⟨z, 3, none⟩ = some (.int .i64 M.pages) := (cell_of_block hx1 3).trans rfl
    have x4 : w1.cell? ⟨z, 4, none⟩ = some (.int .i64 mx) := by rw [← hmx]; exact (cell_of_block hx1 4).trans rfl
    rw [hmx] at T hx1
    clear hDz hD hp hm hp0 hpm hm8 hg6 hmx
    go_wp2_with fail
    refine (T _).mono ?_
    rintro e w2 ⟨rfl, hb2⟩
    have HB2 : Hid (Below w.heap.size w w2) := bel_step HB1.out hb2
    have hx2 := (hb2.block z (lt_of_block hx1)).trans hx1
    have hr2 := (hb2.block (z + 1) (lt_of_block hr1)).trans hr1
    rw [HN.out] at hx2
    obtain ⟨sb, hsb⟩ : ∃ s, w2.heap.size + 1 = s := ⟨_, rfl⟩
    obtain ⟨wA, hwA⟩ : ∃ x, (w2.alloc (.cells #[.int .i64 mx, .string D] 43)).alloc (.cells #[.int .i64 mx, .string D, .slice none 0 0] 46) = x := ⟨_, rfl⟩
    have hb2A : Below w2.heap.size w2 wA := by rw [← hwA]; exact bel_alloc (bel_alloc (Below.refl _ _) _) _
    have hsA : wA.heap[sb]? = some (.cells #[.int .i64 mx, .string D, .slice none 0 0] 46 (0, 0)) := by
      rw [← hwA, ← hsb]
      have h := heap_alloc_new (w2.alloc (.cells #[.int .i64 mx, .string D] 43)) (.cells #[.int .i64 mx, .string D, .slice none 0 0] 46)
      simpa using h
    have hxA := (hb2A.block z (lt_of_block hx2)).trans hx2
    have HRA : Hid (wA.heap[z + 1]? = some (.cells #[.int .i64 0, .string ⟨#[]⟩, .slice none 0 0] 46 (0, 0))) := (hb2A.block (z + 1) (lt_of_block hr2)).trans hr2
    have HwA : Hid (Below w.heap.size w wA) := bel_step HB2.out hb2A
    have HSB : Hid (sb < wA.heap.size) := lt_of_block hsA
    have HWA : Hid (w.heap.size ≤ sb) := by have := HB2.out.size; unfold Hid; omega
    have HZS : Hid (z + 1 < sb) := by have := lt_of_block hr2; unfold Hid; omega
    have HS0 : Hid (StAt sb wA mx D ((M.gs.map toWd).take 0)) := ⟨.slice none 0 0, hsA, World.ownsRow_nil _ _ _ _⟩
    have x1 : ((w2.alloc (.cells #[.int .i64 mx, .string D] 43)).alloc (.cells #[.int .i64 mx, .string D, .slice none 0 0] 46)).cell? ⟨z, 1, none⟩ = some (.slice l.ga n l.gc) := by rw [hwA]; exact (cell_of_block hxA 1).trans rfl
    have HA : Hid ((w2.alloc (.cells #[.int .i64 mx, .string D] 43)).alloc (.cells #[.int .i64 mx, .string D, .slice none 0 0] 46) = wA ∧ w2.heap.size + 1 = sb) := ⟨hwA, hsb⟩
    clear hb2 hx1 hr1 hx2 hr2 hb2A hsA hxA hwA hsb x3 x4 T
    go_wp2
    rw [HA.out.1, HA.out.2]
    clear x1
    go_loopw [26] (fun i wr => ∃ k : Nat, k ≤ n ∧ i = .int .i64 (k : Int) ∧ Hid (StAt sb wr mx D ((M.gs.map toWd).take k)) ∧ Hid (Below sb wA wr ∧ sb < wr.heap.size)) (fun i _ => n - (intOf i).toNat)
    case atStart => exact ⟨0, by omega, rfl, HS0, Below.refl _ _, HSB.out⟩
    case round =>
      obtain ⟨k, hk, rfl, hS, hB⟩ := hrel
      by_cases hlt : k < n
      · have hkG : k < M.gs.length := by have := HN.out; omega
        obtain ⟨b, off, hga, hb, hd⟩ := HG.out.at k hkG
        have htk := take_wd M.gs k hkG
        obtain ⟨y, hy⟩ : ∃ y, y = M.gs[k] := ⟨_, rfl⟩
        rw [← hy] at hd htk
        obtain ⟨t, fx, bb⟩ := y
        obtain ⟨e0, e1, e2⟩ := hd
        simp only at e0 e1 e2 htk
        have hbs : b < sb := Nat.lt_of_lt_of_le hb HWA.out
        have c0 : wr.cell? ⟨b, off + k * 3, none⟩ = some (.int .i64 t) := (hB.out.1.cell (p := ⟨b, off + k * 3, none⟩) hbs).trans ((HwA.out.cell (p := ⟨b, off + k * 3, none⟩) hb).trans e0)
        have c1 : wr.cell? ⟨b, off + k * 3 + 1, none⟩ = some (.bool fx) := (hB.out.1.cell (p := ⟨b, off + k * 3 + 1, none⟩) hbs).trans ((HwA.out.cell (p := ⟨b, off + k * 3 + 1, none⟩) hb).trans e1)
        have c2 : wr.cell? ⟨b, off + k * 3 + 2, none⟩ = some (.int .u64 bb) := (hB.out.1.cell (p := ⟨b, off + k * 3 + 2, none⟩) hbs).trans ((HwA.out.cell (p := ⟨b, off + k * 3 + 2, none⟩) hb).trans e2)
        obtain ⟨v, h0, h1⟩ := hS.out
        have hln : ((M.gs.map toWd).take k).length = k := by rw [List.length_take, List.length_map]; omega
        rw [hln] at h1
        obtain ⟨va, vc, rfl, hvc⟩ := own_shape h1
        obtain ⟨i0, i0i, i00, i01, i02⟩ := info_parts Try.infoWd
        have hA0 : ((wr.alloc (.cells #[.int .i64 t, .bool fx, .int .u64 bb] 79)).alloc (.cells #[.int .i64 t, .int .u64 bb] 86)).heap[sb]? = some (.cells #[.int .i64 mx, .string D, .slice va k vc] 46 (0, 0)) := ((Below.heap_alloc _ _ _ (by simp; have := hB.out.2; omega)).trans (Below.heap_alloc _ _ _ hB.out.2)).trans h0
        have d2 : (wr.alloc (.cells #[.int .i64 t, .bool fx, .int .u64 bb] 79)).cell? ⟨sb, 2, none⟩ = some (.slice va k vc) := (cell_of_block ((Below.heap_alloc _ _ _ hB.out.2).trans h0) 2).trans rfl
        have HO : Hid (wr.ownsRow (sb + 1) 86 2 (.slice va k vc) k (wv ((M.gs.map toWd).take k))) := h1
        have HA0 : Hid (((wr.alloc (.cells #[.int .i64 t, .bool fx, .int .u64 bb] 79)).alloc (.cells #[.int .i64 t, .int .u64 bb] 86)).heap[sb]? = some (.cells #[.int .i64 mx, .string D, .slice va k vc] 46 (0, 0))) := hA0
        have HTK : Hid ((M.gs.map toWd).take (k + 1) = (M.gs.map toWd).take k ++ [⟨t, bb⟩]) := htk
        have hkb : k ≤ 1000 := by omega
        have HKB : Hid (k ≤ 1000) := hkb
        have hkn : (k : Int) < (n : Int) := by omega
        rw [hga]
        clear hA0 h0 h1 e0 e1 e2 hy htk hln hvc hb hbs hga hS
        go_wp2_with (at_builtin; refine wpList_append_lies _ rfl _ _ 44 rfl (sb + 1) 86 i0 (.agg #[.int .i64 0, .int .u64 0]) 2 16 Try.underlying44 i0i i00 i01 i02 rfl (by decide) _ _ _ rfl (((HO.out).alloc _).alloc _) ⟨wr.heap.size + 1, 0, none⟩ 1 1 [.int .i64 t, .int .u64 bb] rfl rfl (pair_new _ _ _ _ _ (by simp)) (by intro u hu; simp at hu; rcases hu with rfl | rfl <;> rfl) (by decide) (by have := HKB.out; unfold maxLen; omega) (by have := HKB.out; omega) (by have := hB.out.2; simp; omega) (wr.heap.size + 1 + 1) (by simp) ?_)
        intro gs cs' w1 hown hgrow hlie hlt1
        have hg1 := grow_block (((HO.out).alloc _).alloc _) hgrow HA0.out
        have hbe : Below sb wr ((wr.alloc (.cells #[.int .i64 t, .bool fx, .int .u64 bb] 79)).alloc (.cells #[.int .i64 t, .int .u64 bb] 86)) := ((Below.refl _ _).alloc (by have := hB.out.2; omega) _).alloc (by have := hB.out.2; simp; omega) _
        have hb1 : Below sb wA w1 := grow_below (((HO.out).alloc _).alloc _) hgrow (hB.out.1.trans hbe) (Nat.le_refl _) (by have := hB.out.2; simp; omega)
        have q2 : w1.cell? ⟨sb, 2, none⟩ = some (.slice va k vc) := (cell_of_block hg1 2).trans rfl
        have f2 : w1.frozen? ⟨sb, 2, none⟩ = false := free_of_block hg1 2
        have HS1 : Hid (StAt sb (w1.setCell ⟨sb, 2, none⟩ (.slice (some ⟨gs, 0, none⟩) (k + 1) cs')) mx D ((M.gs.map toWd).take (k + 1))) := by
          refine ⟨.slice (some ⟨gs, 0, none⟩) (k + 1) cs', heap_setCell_same _ _ _ _ _ _ hg1, ?_⟩
          rw [HTK.out, List.length_append, wv_app]
          have hln2 : ((M.gs.map toWd).take k).length = k := by rw [List.length_take, List.length_map]; omega
          rw [hln2]
          exact own_keep hown fun b hb => by obtain ⟨_, _, hB⟩ := own_at hown hb; exact heap_setCell_other _ ⟨sb, 2, none⟩ b _ (show b ≠ sb by omega)
        have HB1 : Hid (Below sb wA (w1.setCell ⟨sb, 2, none⟩ (.slice (some ⟨gs, 0, none⟩) (k + 1) cs')) ∧ sb < (w1.setCell ⟨sb, 2, none⟩ (.slice (some ⟨gs, 0, none⟩) (k + 1) cs')).heap.size) := ⟨hb1.setCell (Nat.le_refl _) _, by have := lt_of_block hg1; simpa [World.setCell] using this⟩
        clear hown hgrow hlie hlt1 hg1 hb1 hbe c0 c1 c2 d2 HO HA0
        go_wp2
        go_roundw
        case rel => exact ⟨k + 1, by omega, by go_num, HS1, HB1⟩
        case measure => simp [intOf]; omega
      · obtain ⟨v, h0, h1⟩ := hS.out
        have hkn : k = n := by omega
        have htk : (M.gs.map toWd).take k = M.gs.map toWd := List.take_of_length_le (by have := HN.out; rw [List.length_map]; omega)
        rw [htk] at h1
        obtain ⟨va, vc, rfl, _⟩ := own_shape h1
        have hwb := own_wds h1
        have hbr := hB.out.1
        have hr1 := (hbr.block (z + 1) (by have := HZS.out; omega)).trans HRA.out
        have s0 : wr.cell? ⟨sb, 0, none⟩ = some (.int .i64 mx) := (cell_of_block h0 0).trans rfl
        have s1 : wr.cell? ⟨sb, 1, none⟩ = some (.string D) := (cell_of_block h0 1).trans rfl
        have s2 : wr.cell? ⟨sb, 2, none⟩ = some (.slice va (M.gs.map toWd).length vc) := (cell_of_block h0 2).trans rfl
        have q0 := (cell_of_block hr1 0).trans rfl
        have q1 := (cell_of_block hr1 1).trans rfl
        have q2 := (cell_of_block hr1 2).trans rfl
        have k0 := free_of_block hr1 0
        have k1 := free_of_block hr1 1
        have k2 := free_of_block hr1 2
        have HBR : Hid (Below w.heap.size w wr) := HwA.out.trans (hbr.mono HWA.out)
        have HWB : Hid (WdsB (sb + 1) wr va (M.gs.map toWd)) := hwb
        clear hbr hr1 h0 h1 hwb hS
        go_wp2
        refine bodyPost_ret (v := .tuple #[.agg #[.int .i64 mx, .string D, .slice va (M.gs.map toWd).length vc], .bool true]) (by simp [results, Try.results21, go_sem, q0, q1, q2]) rfl ⟨va, vc, ?_, ?_, ?_⟩
        · rw [H1.out.1, H1.out.2.1, H1.out.2.2, HSH.out]; try rfl
        · rw [H1.out.2.2]
          have hz1 : z + 1 < sb + 1 := by have := HZS.out; omega
          exact (((HWB.out.set hz1 _ _).set hz1 _ _).set hz1 _ _).low (by have := HWA.out; omega)
        · exact ((HBR.out.setCell HLE.out _).setCell HLE.out _).setCell HLE.out _

end Go.Proofs.Ytbliopgdkphoaaa
