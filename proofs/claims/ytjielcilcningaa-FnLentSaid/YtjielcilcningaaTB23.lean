/-
  Used handles counted: both sides, and the law. (Made by a generator.)
-/
import Derived.Test.YtjielcilcningaaTB16
namespace Go.Proofs.Ytjielcilcningaa
open Go.ChangeShapes Go.WideShapes Go.ChangeAt Go.RowKit Go.Maps

/-- Whether a handle counts. -/
def cntU (res : Int) (f : Hd) : Bool := f.u && (res == -1 || f.r == res)
/-- How many of the first k count. -/
def cntTo (S : List Hd) (res : Int) : Nat → Nat
  | 0 => 0
  | k + 1 => cntTo S res k + (match S[k]? with | some h => (if cntU res h then 1 else 0) | none => 0)
theorem cntTo_more {S : List Hd} {res : Int} {k q : Nat} {f : Hd} (hk : k < S.length) (hf : S[k] = f) (hq : q = cntTo S res k) : cntTo S res (k + 1) = q + (if cntU res f then 1 else 0) := by
  simp only [cntTo]
  rw [List.getElem?_eq_getElem hk, hf, ← hq]

set_option maxRecDepth 100000 in
set_option maxHeartbeats 3200000 in
theorem implCountU (a b : Option Addr) (c d : Nat) (S : List Hd) (F : List Int) (res : Int) (w : World) (hS : Hid (Hds w a S)) (hF : Hid (Ints w b F)) (lS : S.length ≤ 1048576) (lF : F.length ≤ 1048576) (okF : Hid (∀ x ∈ F, -9223372036854775808 ≤ x ∧ x ≤ 9223372036854775807)) (C : Int) (G : Bool) (hf : (GoodT S F ∧ C = (cntTo S res S.length : Int) ∧ G = true) ∨ (¬ GoodT S F ∧ C = 0 ∧ G = false)) :
    Calls Try.prog 10 #[tabV a S.length c b F.length d, .int .i64 res] w fun e w' => e = .returned (.tuple #[.int .i64 C, .bool G]) ∧ Below w.heap.size w w' := by
  obtain ⟨g, hg⟩ : ∃ g, w.heap.size = g := ⟨_, rfl⟩
  obtain ⟨V, hV⟩ : ∃ W, (w.alloc (.cells #[.slice a S.length c, .slice b F.length d] 26)) = W := ⟨_, rfl⟩
  have hbV : Below w.heap.size w V := by rw [← hV]; exact (bel_alloc (Below.refl _ _) _)
  have hzV : V.heap.size = g + 1 := by rw [← hV, ← hg]; simp
  have bt : V.heap[g]? = some (.cells #[.slice a S.length c, .slice b F.length d] 26 (0, 0)) := by
    have h := heap_alloc_new w (.cells #[.slice a S.length c, .slice b F.length d] 26)
    have e : w.heap.size = g := by exact hg
    rw [e] at h
    rw [← hV]
    exact h
  have HBV : Hid (Below w.heap.size w V ∧ w.heap.size = g) := ⟨hbV, hg⟩
  have HB : Hid (Below w.heap.size w V) := hbV
  have LB : Hid (g + 1 ≤ V.heap.size) := Nat.le_of_eq hzV.symm
  have OP := implOpen a b c d S F V (hS.out.below hbV) (hF.out.below hbV) lS lF okF
  have HZV : Hid (V.heap.size = g + 1) := hzV
  unfold tabV at OP ⊢
  clear hbV hzV hS hF okF
  have pt0x1 : V.cell? ⟨g, 0, none⟩ = some (.slice a S.length c) := (cell_of_block bt 0).trans rfl
  have pt1x1 : V.cell? ⟨g, 1, none⟩ = some (.slice b F.length d) := (cell_of_block bt 1).trans rfl
  go_enter Try.func10, Try.ntmps10
  go_wp2_with fail
  clear hV hg pt0x1 pt1x1
  refine (OP).mono ?_
  rintro e w1 ⟨hb, y, m, h⟩
  replace bt := (hb.block (g) (lt_of_block bt)).trans bt
  replace HB : Hid (Below w.heap.size w w1) := bel_step HB.out hb
  replace LB : Hid (g + 1 ≤ w1.heap.size) := Nat.le_trans LB.out hb.size
  clear hb
  clear OP
  rcases hf with ⟨hG, rfl, rfl⟩ | ⟨hG, rfl, rfl⟩
  · obtain ⟨v, rfl, HO⟩ : ∃ v, e = .returned (.tuple #[.pointer (some ⟨y, 0, none⟩), .bool true]) ∧ Hid (OT (g + 1) w1 y m S F v) := by
      rcases h with ⟨he, hg', v, h⟩ | ⟨he, hg', h⟩
      · rw [HZV.out] at h; exact ⟨v, he, h⟩
      · exact absurd hG hg'
    clear h hG
    obtain ⟨w0, hw0⟩ : ∃ W, w1 = W := ⟨_, rfl⟩
    rw [hw0] at bt HB LB HO ⊢
    clear hw0
    obtain ⟨av, cv, rfl, hds, _⟩ := own_hds HO.out.row
    have HDS : Hid (Hds w0 av S) := hds
    have py : w0.cell? ⟨y, 0, none⟩ = some (.slice av S.length cv) := (cell_of_block HO.out.xb 0).trans rfl
    clear hds
    go_wp2
    clear py
    go_loopw [8, 21] (fun ct i wr => ∃ (k q : Nat), k ≤ S.length ∧ i = .int .i64 k ∧ ct = .int .i64 q ∧ q ≤ k ∧ Hid (q = cntTo S res k) ∧ Hid (Below w0.heap.size w0 wr)) (fun _ i _ => S.length - (intOf i).toNat)
    case atStart => exact ⟨0, 0, by omega, rfl, rfl, by omega, rfl, Below.refl _ _⟩
    case round =>
      obtain ⟨k, q, hk, rfl, rfl, hq, hqf, hB⟩ := hrel
      by_cases hlt : k < S.length
      · obtain ⟨bb, off, rfl, hb, hc⟩ := HDS.out.at k hlt
        obtain ⟨f, hf⟩ : ∃ f, S[k] = f := ⟨_, rfl⟩
        rw [hf] at hc
        have HF : Hid (S[k] = f) := hf
        clear hf
        obtain ⟨d0, d1, d2, d3, d4, d5⟩ := hc.kept (w' := wr) (fun j => hB.out.cell (p := ⟨bb, j, none⟩) hb)
        clear hc
        obtain ⟨u, r, p, o, l, s⟩ := f
        simp only at d0 d1 d2 d3 d4 d5
        have HBn : Hid (Below w0.heap.size w0 (wr.alloc (.cells #[.bool u, .int .i64 r, .int .i64 p, .bool o, .int .i64 l, .int .i64 s] 28))) := bel_alloc hB.out _
        cases u
        · have hC : cntU res ⟨false, r, p, o, l, s⟩ = false := by simp [cntU]
          have HC : Hid (cntU res ⟨false, r, p, o, l, s⟩ = false) := hC
          clear hC
          go_wp2
          go_roundw
          case rel =>
            exact ⟨k + 1, q, by omega, by go_num, rfl, by omega, by unfold Hid; rw [cntTo_more hlt HF.out hqf.out, HC.out]; rfl, HBn⟩
          case measure => simp [intOf]; omega
        · by_cases h1 : res = -1
          · have e1 : (res == -1) = true := by simpa using h1
            clear h1
            have hC : cntU res ⟨true, r, p, o, l, s⟩ = true := by simp [cntU, e1]
            have HC : Hid (cntU res ⟨true, r, p, o, l, s⟩ = true) := hC
            clear hC
            go_wp2
            go_roundw
            case rel =>
              exact ⟨k + 1, q + 1, by omega, by go_num, by go_num, by omega, by unfold Hid; rw [cntTo_more hlt HF.out hqf.out, HC.out]; rfl, HBn⟩
            case measure => simp [intOf]; omega
          · have e1 : (res == -1) = false := by simpa using h1
            clear h1
            by_cases h2 : r = res
            · have e2 : (r == res) = true := by simpa using h2
              clear h2
              have hC : cntU res ⟨true, r, p, o, l, s⟩ = true := by simp [cntU, e1, e2]
              have HC : Hid (cntU res ⟨true, r, p, o, l, s⟩ = true) := hC
              clear hC
              go_wp2
              go_roundw
              case rel =>
                exact ⟨k + 1, q + 1, by omega, by go_num, by go_num, by omega, by unfold Hid; rw [cntTo_more hlt HF.out hqf.out, HC.out]; rfl, HBn⟩
              case measure => simp [intOf]; omega
            · have e2 : (r == res) = false := by simpa using h2
              clear h2
              have hC : cntU res ⟨true, r, p, o, l, s⟩ = false := by simp [cntU, e1, e2]
              have HC : Hid (cntU res ⟨true, r, p, o, l, s⟩ = false) := hC
              clear hC
              go_wp2
              go_roundw
              case rel =>
                exact ⟨k + 1, q, by omega, by go_num, rfl, by omega, by unfold Hid; rw [cntTo_more hlt HF.out hqf.out, HC.out]; rfl, HBn⟩
              case measure => simp [intOf]; omega
      · obtain rfl : k = S.length := by omega
        go_wp2
        go_ret2
        exact ⟨by rw [hqf.out]; rfl, bel_step HB.out hB.out⟩
  · obtain ⟨v, rfl, HO⟩ : ∃ v, e = .returned (.tuple #[.pointer (some ⟨y, 0, none⟩), .bool false]) ∧ Hid (OT (g + 1) w1 y m [] [] v) := by
      rcases h with ⟨he, hg', v, h⟩ | ⟨he, hg', h⟩
      · exact absurd hg' hG
      · rw [HZV.out] at h; exact ⟨_, he, h⟩
    clear h hG
    obtain ⟨w0, hw0⟩ : ∃ W, w1 = W := ⟨_, rfl⟩
    rw [hw0] at bt HB LB HO ⊢
    clear hw0
    obtain ⟨av, cv, rfl, hds, _⟩ := own_hds HO.out.row
    have HDS : Hid (Hds w0 av ([] : List Hd)) := hds
    have py : w0.cell? ⟨y, 0, none⟩ = some (.slice av 0 cv) := (cell_of_block HO.out.xb 0).trans rfl
    clear hds
    go_wp2
    clear py
    go_loopw [8, 21] (fun ct i wr => i = .int .i64 0 ∧ ct = .int .i64 0 ∧ wr = w0) (fun _ _ _ => 0)
    case atStart => exact ⟨rfl, rfl, rfl⟩
    case round =>
      obtain ⟨rfl, rfl, hwx⟩ := hrel
      obtain rfl := hwx.symm
      go_wp2
      go_ret2
      exact ⟨rfl, HB.out⟩

end Go.Proofs.Ytjielcilcningaa
