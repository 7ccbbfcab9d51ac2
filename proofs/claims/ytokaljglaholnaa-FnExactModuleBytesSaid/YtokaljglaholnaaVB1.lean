/-
  A module in bytes: what its rows are, and the program's side of them.
-/
import Derived.Test.YtokaljglaholnaaVG4
import Derived.Test.YtokaljglaholnaaSecBytes
import Derived.RangeFuncNested
import Derived.RangeFuncBound
import Derived.RangeFuncCalls
import Derived.RangeFuncLeaves
import Derived.RangeFuncBox
import Derived.Shelf.Abstract
import Derived.WalkKit
import Derived.OwnWalkIn
import Derived.TacticsInMore
import Derived.LoopNIn
import Derived.LoopIn
import Derived.Maps.AppendAt
namespace Go.Proofs.Ytokaljglaholnaa
open Go.ChangeShapes Go.WideShapes Go.ChangeAt Go.RowKit

theorem own_belV {wr w1 : World} {B : Nat} {e : TypeId} {size n : Nat} {v : Value} {xs : List Value} (h : wr.ownsRow B e size v n xs) (hb : Below wr.heap.size wr w1) : w1.ownsRow B e size v n xs := by
  refine ⟨h.1, ?_⟩
  rcases h.2 with h2 | ⟨g, cap, cur, e1, e2, hh, r⟩
  · exact .inl h2
  · exact .inr ⟨g, cap, cur, e1, e2, (hb.block g (lt_of_block hh)).trans hh, r⟩

def funsB (L : List Fun7) : List UInt8 := ul 10 L.length ++ L.flatMap funB
def funsRes (L : List Fun7) : Value := if L.all funOk = true then .tuple #[.string (str (funsB L)), .bool true] else .tuple #[.string ⟨#[]⟩, .bool false]
theorem funsRes_yes {L : List Fun7} (h : L.all funOk = true) : funsRes L = .tuple #[.string (str (funsB L)), .bool true] := if_pos h
theorem funsRes_no {L : List Fun7} (h : L.all funOk = false) : funsRes L = .tuple #[.string ⟨#[]⟩, .bool false] := if_neg (by rw [h]; decide)
theorem flat_snoc {α : Type} (p : α → List UInt8) (L : List α) (k : Nat) (h : k < L.length) : (L.take (k + 1)).flatMap p = (L.take k).flatMap p ++ p L[k] := by
  rw [List.take_succ_eq_append_getElem h, List.flatMap_append]; simp
def fixN (b : Bool) : Nat := if b then 1 else 0
def gloB (g : Glo7) : List UInt8 := ul 10 g.ty.toNat ++ ul 10 (fixN g.fixed) ++ ul 10 g.bits.toNat
def glosB (L : List Glo7) : List UInt8 := ul 10 L.length ++ L.flatMap gloB
def pagB (M : Mod7) : List UInt8 := ul 10 M.pages.toNat ++ ul 10 M.most.toNat
theorem gloB_len (g : Glo7) : (gloB g).length ≤ 30 := by
  unfold gloB
  have h1 := ul_len 10 g.ty.toNat
  have h2 := ul_len 10 (fixN g.fixed)
  have h3 := ul_len 10 g.bits.toNat
  simp; omega
theorem funB_len {f : Fun7} (h : funOk f = true) : (funB f).length ≤ 900 := by
  unfold funOk at h
  simp only [Bool.and_eq_true, decide_eq_true_eq] at h
  exact h.2

set_option maxRecDepth 100000 in
set_option maxHeartbeats 3200000 in
theorem implFuncs (a : Option Addr) (cap : Nat) (L : List Fun7) (w : World) (hI : Hid (Funs w a L)) (hs : Hid (∀ f ∈ L, smF f)) (hlen : L.length ≤ 10) :
    Calls Try.prog 56 #[.slice a L.length cap] w fun e w' => e = .returned (funsRes L) ∧ Below w.heap.size w w' := by
  obtain ⟨i0, hi, hz0, hz1, hz2⟩ := info_parts Try.info5
  have A := appendUlebs_any w.heap.size (.slice none 0 0) [] w.heap.size [L.length] (w.alloc (.cells #[.int .u64 (L.length : Int)] 76)) (by intro m hm; simp at hm; omega) ((World.ownsRow_nil _ _ _ _).alloc _) (heap_alloc_new _ _) (by simp) (by simp)
  rw [ulAll_at, List.nil_append] at A
  have hul := ul_len 10 L.length
  have HT : Hid (funsB L = ul 10 L.length ++ L.flatMap funB) := rfl
  generalize ul 10 L.length = us at A hul HT
  go_enter Try.func56, Try.ntmps56
  go_wp2_with fail
  refine A.mono ?_
  rintro e w1 ⟨v1, rfl, hown1, hk1, hb1⟩
  have HB1 : Hid (Below w.heap.size w w1) := ((Below.refl _ _).alloc (Nat.le_refl _) _).trans hb1
  clear A hk1 hb1
  go_wp2
  go_loopw [4, 16] (fun v i wr => ∃ (k : Nat) (cs : List UInt8), k ≤ L.length ∧ i = .int .i64 k ∧ Hid ((L.take k).all funOk = true) ∧ Hid (cs = us ++ (L.take k).flatMap funB) ∧ cs.length ≤ 10 + 900 * k ∧ wr.ownsRow w.heap.size 5 1 v cs.length (bv cs) ∧ Hid (Below w.heap.size w wr)) (fun _ i _ => L.length - (intOf i).toNat)
  case atStart => exact ⟨0, us, by omega, rfl, by simp [Hid], by simp [Hid], by omega, hown1, HB1⟩
  case round =>
    clear hown1 HB1
    obtain ⟨k, cs, hk, rfl, hall, hcs, hcl, hown, hnx⟩ := hrel
    by_cases hlt : k < L.length
    · obtain ⟨b, off, rfl, hb, pa, pc, la, lc, ba, bc, c0, c1, c2, c3, hrow⟩ := hI.out.at k hlt
      have ht := all_take funOk L k hlt
      have hn := all_no funOk L k hlt
      have hsn := flat_snoc funB L k hlt
      have hok := hs.out L[k] (List.getElem_mem _)
      obtain ⟨x, hx⟩ : ∃ x, x = L[k] := ⟨_, rfl⟩
      rw [← hx] at c0 c1 c2 c3 ht hn hsn hok hrow
      clear hx
      have F : Hid (∀ w', Below w.heap.size w w' → Calls Try.prog 14 #[.agg #[.slice pa x.ps.length pc, .int .i64 x.res, .slice la x.ls.length lc, .slice ba x.body.length bc]] w' fun e w'' => e = .returned (funRes x) ∧ Below w'.heap.size w' w'') := fun w' h => implFuncBytes pa la ba pc lc bc x w' (hrow.out.below h) hok
      have d0 := (hnx.out.cell (p := ⟨b, off + k * 4, none⟩) (by exact hb)).trans c0
      have d1 := (hnx.out.cell (p := ⟨b, off + k * 4 + 1, none⟩) (by exact hb)).trans c1
      have d2 := (hnx.out.cell (p := ⟨b, off + k * 4 + 2, none⟩) (by exact hb)).trans c2
      have d3 := (hnx.out.cell (p := ⟨b, off + k * 4 + 3, none⟩) (by exact hb)).trans c3
      have HS : Hid (us ++ (L.take (k + 1)).flatMap funB = cs ++ funB x) := by unfold Hid; rw [hsn, hcs.out]; simp
      obtain ⟨r, hr⟩ : ∃ r, funOk x = r := ⟨_, rfl⟩
      have hfl : r = true → (funB x).length ≤ 900 := fun h => funB_len (hr.trans h)
      rw [hr] at ht hn
      have HTK : Hid ((L.take (k + 1)).all funOk = ((L.take k).all funOk && r)) := ht
      have HN : Hid (r = false → L.all funOk = false) := hn
      have HNR : Hid (L.all funOk = false → funsRes L = .tuple #[.string ⟨#[]⟩, .bool false]) := fun h => funsRes_no h
      clear c0 c1 c2 c3 ht hn hsn hok hrow hul
      cases r
      · rw [funRes_no hr] at F
        clear hr hfl HS HTK
        go_wp2_with fail
        refine (F.out _ (bel_alloc hnx.out _)).mono ?_
        rintro e w4 ⟨rfl, hb4⟩
        have HB4 : Hid (Below w.heap.size w w4) := bel_step (bel_alloc hnx.out _) hb4
        clear hb4 F d0 d1 d2 d3
        go_wp2
        go_ret2
        exact ⟨by rw [HNR.out (HN.out (by trivial))]; rfl, HB4.out⟩
      · rw [funRes_yes hr] at F
        have hfl' := hfl rfl
        clear hr hfl HN HNR
        generalize funB x = D at *
        obtain ⟨S, hS⟩ : ∃ S, str D = S := ⟨_, rfl⟩
        have hSs : S.size = D.length := by rw [← hS, str_size]
        have hScells : Hid (Lib.strCells S = bv D) := by unfold Hid; rw [← hS]; exact str_bv D
        rw [hS] at F
        clear hS
        go_wp2_with fail
        refine (F.out _ (bel_alloc hnx.out _)).mono ?_
        rintro e w4 ⟨rfl, hb4⟩
        have HB4 : Hid (Below w.heap.size w w4) := bel_step (bel_alloc hnx.out _) hb4
        have hown4 := own_belV (hown.alloc _) hb4
        have hsz4 := HB4.out.size
        have hcl' : cs.length ≤ 100000 := by omega
        clear hb4 F d0 d1 d2 d3 hown hnx
        go_wp2_with (at_builtin; refine Lib.wpList_append_own_string _ rfl _ _ 73 9 rfl w.heap.size 5 i0 Try.underlying73 Try.underlying9 hi hz0 hz1 hz2 _ _ _ rfl hown4 S rfl ?d1 ?d2 ?d3 ?_)
        case d1 => unfold maxLen; omega
        case d2 => omega
        case d3 => exact hsz4
        intro v5 w5 hown5 hgrow5 _
        have hown6 : w5.ownsRow w.heap.size 5 1 v5 (cs ++ D).length (bv (cs ++ D)) := by
          rw [hScells.out, bv_app] at hown5
          rw [List.length_append]; exact hown5
        have HB5 : Hid (Below w.heap.size w w5) := HB4.out.grown hgrow5 hsz4 (ownsRow_block hown4)
        clear hown5 hgrow5 hown4 HB4 hsz4 hScells
        go_wp2
        go_roundw
        case rel => exact ⟨k + 1, _, by omega, by go_num, by unfold Hid; rw [HTK.out, hall.out]; rfl, HS.out.symm, by simp; omega, hown6, HB5⟩
        case measure => simp [intOf]; omega
    · have e : L.take k = L := List.take_of_length_le (by omega)
      have hcs' := hcs.out
      rw [e, ← HT.out] at hcs'
      have hall' := hall.out
      rw [e] at hall'
      have HY : Hid (funsRes L = .tuple #[.string (str (funsB L)), .bool true]) := funsRes_yes hall'
      subst hcs'
      clear hcs e hall hall'
      have hcv := owned_string (P := Try.prog) 73 9 5 Try.underlying73 Try.underlying5 Try.underlying9 hown
      obtain ⟨ao, cp, rfl⟩ := ownsRow_shape hown
      clear hown
      go_wp2
      go_ret2
      exact ⟨by rw [HY.out]; rfl, hnx.out⟩

set_option maxRecDepth 100000 in
set_option maxHeartbeats 1600000 in
theorem implPagB (l : Loc7) (M : Mod7) (w : World) (h0 : 0 ≤ M.pages) (h1 : M.pages ≤ 8) (h2 : 0 ≤ M.most) (h3 : M.most ≤ 8) :
    Calls Try.prog 57 #[modV l M] w fun e w' => e = .returned (.string (str (pagB M))) ∧ Below w.heap.size w w' := by
  obtain ⟨fa, fc, ga, gc⟩ := l
  obtain ⟨fs, gs, mem, pages, most, start⟩ := M
  unfold modV pagB
  simp only at h0 h1 h2 h3 ⊢
  obtain ⟨p, rfl⟩ : ∃ p : Nat, pages = p := ⟨pages.toNat, by omega⟩
  obtain ⟨m, rfl⟩ : ∃ m : Nat, most = m := ⟨most.toNat, by omega⟩
  have e0 : ul 10 (p : Int).toNat ++ ul 10 (m : Int).toNat = ulAll [p, m] := by simp [ulAll]
  rw [e0]
  clear e0
  obtain ⟨W, hW⟩ : ∃ W, w.alloc (.cells #[.slice fa fs.length fc, .slice ga gs.length gc, .bool mem, .int .i64 (p : Int), .int .i64 (m : Int), .int .i64 start] 32) = W := ⟨_, rfl⟩
  have hWs : W.heap.size = w.heap.size + 1 := by rw [← hW]; simp
  have hb0 : Below w.heap.size w W := by rw [← hW]; exact (Below.refl _ _).alloc (Nat.le_refl _) _
  have A := appendUlebs_any w.heap.size (.slice none 0 0) [] W.heap.size [p, m] (W.alloc (.cells #[.int .u64 (p : Int), .int .u64 (m : Int)] 76)) (by intro n hm; simp at hm; omega) ((World.ownsRow_nil _ _ _ _).alloc _) (heap_alloc_new _ _) (by simp; omega) (by simp)
  rw [List.nil_append] at A
  rw [hWs] at A
  rw [← hW] at A
  clear hWs hb0 hW W
  go_enter Try.func57, Try.ntmps57
  go_wp2_with fail
  refine A.mono ?_
  rintro e w1 ⟨v1, rfl, hown1, hk1, hb1⟩
  have HB1 : Hid (Below w.heap.size w w1) := (((Below.refl _ _).alloc (Nat.le_refl _) _).alloc (by simp) _).trans hb1
  have hcv := owned_string (P := Try.prog) 73 9 5 Try.underlying73 Try.underlying5 Try.underlying9 hown1
  obtain ⟨ao, cp, rfl⟩ := ownsRow_shape hown1
  clear hown1 A hk1 hb1
  go_wp2
  go_ret
  exact ⟨rfl, HB1.out⟩

set_option maxRecDepth 2000000 in
theorem oneIfV (b : Bool) (w : World) :
    Calls Try.prog 82 #[.bool b] w fun e w' => e = .returned (.int .u64 (fixN b : Int)) ∧ w' = w := by
  cases b
  · go_enter Try.func82, Try.ntmps82
    go_wp2
    go_ret
    exact ⟨rfl, rfl⟩
  · go_enter Try.func82, Try.ntmps82
    go_wp2
    go_ret
    exact ⟨rfl, rfl⟩

set_option maxRecDepth 100000 in
set_option maxHeartbeats 3200000 in
theorem implGlos (a : Option Addr) (cap : Nat) (L : List Glo7) (w : World) (hI : Hid (Glos w a L)) (hs : Hid (∀ g ∈ L, okG g ∧ 0 ≤ g.ty ∧ g.ty ≤ 127)) (hlen : L.length ≤ 6) :
    Calls Try.prog 58 #[.slice a L.length cap] w fun e w' => e = .returned (.string (str (glosB L))) ∧ Below w.heap.size w w' := by
  have A := appendUlebs_any w.heap.size (.slice none 0 0) [] w.heap.size [L.length] (w.alloc (.cells #[.int .u64 (L.length : Int)] 76)) (by intro m hm; simp at hm; omega) ((World.ownsRow_nil _ _ _ _).alloc _) (heap_alloc_new _ _) (by simp) (by simp)
  rw [ulAll_at, List.nil_append] at A
  have hul := ul_len 10 L.length
  have HT : Hid (glosB L = ul 10 L.length ++ L.flatMap gloB) := rfl
  generalize ul 10 L.length = us at A hul HT
  go_enter Try.func58, Try.ntmps58
  go_wp2_with fail
  refine A.mono ?_
  rintro e w1 ⟨v1, rfl, hown1, hk1, hb1⟩
  have HB1 : Hid (Below w.heap.size w w1) := ((Below.refl _ _).alloc (Nat.le_refl _) _).trans hb1
  clear A hk1 hb1
  go_wp2
  go_loopw [3, 13] (fun v i wr => ∃ (k : Nat) (cs : List UInt8), k ≤ L.length ∧ i = .int .i64 k ∧ Hid (cs = us ++ (L.take k).flatMap gloB) ∧ cs.length ≤ 10 + 30 * k ∧ wr.ownsRow w.heap.size 5 1 v cs.length (bv cs) ∧ Hid (Below w.heap.size w wr)) (fun _ i _ => L.length - (intOf i).toNat)
  case atStart => exact ⟨0, us, by omega, rfl, by simp [Hid], by omega, hown1, HB1⟩
  case round =>
    clear hown1 HB1
    obtain ⟨k, cs, hk, rfl, hcs, hcl, hown, hnx⟩ := hrel
    by_cases hlt : k < L.length
    · obtain ⟨b, off, rfl, hb, c0, c1, c2⟩ := hI.out.at k hlt
      have hsn := flat_snoc gloB L k hlt
      have hok := hs.out L[k] (List.getElem_mem _)
      have hgl := gloB_len L[k]
      obtain ⟨x, hx⟩ : ∃ x, x = L[k] := ⟨_, rfl⟩
      rw [← hx] at c0 c1 c2 hsn hok hgl
      clear hx
      obtain ⟨ty, fx, bits⟩ := x
      obtain ⟨⟨q0, q1⟩, q2, q3⟩ := hok
      simp only at c0 c1 c2 q0 q1 q2 q3
      obtain ⟨t, rfl⟩ : ∃ t : Nat, ty = t := ⟨ty.toNat, by omega⟩
      obtain ⟨q, rfl⟩ : ∃ q : Nat, bits = q := ⟨bits.toNat, by omega⟩
      have hg : gloB ⟨t, fx, q⟩ = ulAll [t, fixN fx, q] := by simp [gloB, ulAll]
      rw [hg] at hsn hgl
      have HS : Hid (us ++ (L.take (k + 1)).flatMap gloB = cs ++ ulAll [t, fixN fx, q]) := by unfold Hid; rw [hsn, hcs.out]; simp
      have d0 := (hnx.out.cell (p := ⟨b, off + k * 3, none⟩) (by exact hb)).trans c0
      have d1 := (hnx.out.cell (p := ⟨b, off + k * 3 + 1, none⟩) (by exact hb)).trans c1
      have d2 := (hnx.out.cell (p := ⟨b, off + k * 3 + 2, none⟩) (by exact hb)).trans c2
      have ht1 : IntKind.u64.wrap (t : Int) = t := by rw [IntKind.wrap_u64]; omega
      have hf1 : fixN fx ≤ 1 := by cases fx <;> decide
      have O := oneIfV fx
      clear c0 c1 c2 hsn hg hul
      go_wp2_with fail
      clear d0 d1 d2
      obtain ⟨z, hz⟩ : ∃ z, wr.heap.size = z := ⟨_, rfl⟩
      have HZ : Hid (wr.heap.size = z) := hz
      obtain ⟨W, hW⟩ : ∃ W, wr.alloc (.cells #[.int .i64 (t : Int), .bool fx, .int .u64 (q : Int)] 80) = W := ⟨_, rfl⟩
      have hxW : W.heap[z]? = some (.cells #[.int .i64 (t : Int), .bool fx, .int .u64 (q : Int)] 80 (0, 0)) := by rw [← hW, ← hz]; exact heap_alloc_new _ _
      have hownW : W.ownsRow w.heap.size 5 1 u3 cs.length (bv cs) := by rw [← hW]; exact hown.alloc _
      have hnW : Hid (Below w.heap.size w W) := by rw [← hW]; exact bel_alloc hnx.out _
      rw [hW]
      rw [hz]
      clear hz hown hnx hW
      refine wh_begin (fun w' => w'.heap[z]? = some (.cells #[.int .i64 (t : Int), .bool fx, .int .u64 (q : Int)] 80 (0, 0))) (by kernel_rfl) ?_
      have hS0 : W.drew.heap[z]? = some (.cells #[.int .i64 (t : Int), .bool fx, .int .u64 (q : Int)] 80 (0, 0)) := hxW
      refine wh_take 0 (some 17) (u3) rfl rfl (by kernel_rfl) (by kernel_rfl) (by kernel_rfl) (fun _ _ _ h => h) hS0 (by rfl) (fun w' hS => by first | rfl | (go_simp; done) | (go_simp; omega)) ?_
      simp only [Act.put, List.setIfInBounds_toArray, List.set_cons_zero, List.set_cons_succ]
      refine wh_take 1 (some 18) (.pointer (some ⟨z, 0, none⟩)) rfl rfl (by kernel_rfl) (by kernel_rfl) (by kernel_rfl) (fun _ _ _ h => h) hS0 (by rfl) (fun w' hS => by first | rfl | (go_simp; done) | (go_simp; omega)) ?_
      simp only [Act.put, List.setIfInBounds_toArray, List.set_cons_zero, List.set_cons_succ]
      refine wh_take 2 (some 19) (.int .i64 (t : Int)) rfl rfl (by kernel_rfl) (by kernel_rfl) (by kernel_rfl) (fun _ _ _ h => h) hS0 (by rfl) (fun w' hS => by have q := (cell_of_block hS 0).trans rfl; first | rfl | (go_simp; done) | (go_simp; omega)) ?_
      simp only [Act.put, List.setIfInBounds_toArray, List.set_cons_zero, List.set_cons_succ]
      refine wh_take 3 (some 20) (.int .u64 (t : Int)) rfl rfl (by kernel_rfl) (by kernel_rfl) (by kernel_rfl) (fun _ _ _ h => h) hS0 (by rfl) (fun w' hS => by first | rfl | (go_simp; done) | (go_simp; omega)) ?_
      simp only [Act.put, List.setIfInBounds_toArray, List.set_cons_zero, List.set_cons_succ]
      refine wh_take 4 (some 21) (.pointer (some ⟨z, 1, none⟩)) rfl rfl (by kernel_rfl) (by kernel_rfl) (by kernel_rfl) (fun _ _ _ h => h) hS0 (by rfl) (fun w' hS => by first | rfl | (go_simp; done) | (go_simp; omega)) ?_
      simp only [Act.put, List.setIfInBounds_toArray, List.set_cons_zero, List.set_cons_succ]
      refine wh_take 5 (some 22) (.bool fx) rfl rfl (by kernel_rfl) (by kernel_rfl) (by kernel_rfl) (fun _ _ _ h => h) hS0 (by rfl) (fun w' hS => by have q := (cell_of_block hS 1).trans rfl; first | rfl | (go_simp; done) | (go_simp; omega)) ?_
      simp only [Act.put, List.setIfInBounds_toArray, List.set_cons_zero, List.set_cons_succ]
      refine wh_take 7 (some 24) (.pointer (some ⟨z, 2, none⟩)) rfl rfl (by kernel_rfl) (by kernel_rfl) (by kernel_rfl) (fun _ _ _ h => h) hS0 (by rfl) (fun w' hS => by first | rfl | (go_simp; done) | (go_simp; omega)) ?_
      simp only [Act.put, List.setIfInBounds_toArray, List.set_cons_zero, List.set_cons_succ]
      refine wh_take 8 (some 25) (.int .u64 (q : Int)) rfl rfl (by kernel_rfl) (by kernel_rfl) (by kernel_rfl) (fun _ _ _ h => h) hS0 (by rfl) (fun w' hS => by have q := (cell_of_block hS 2).trans rfl; first | rfl | (go_simp; done) | (go_simp; omega)) ?_
      simp only [Act.put, List.setIfInBounds_toArray, List.set_cons_zero, List.set_cons_succ]
      refine wh_call 6 (some 23) 82 #[.bool fx] (by kernel_rfl) rfl rfl (by rfl) (by kernel_rfl) ?_
      refine (O _).mono ?_
      rintro e w2 ⟨rfl, hw⟩
      obtain rfl := hw.symm
      refine ⟨_, rfl, hS0, ?_⟩
      simp only [Act.put, List.setIfInBounds_toArray, List.set_cons_zero, List.set_cons_succ]
      have hS2 : (W.drew.alloc (.cells #[.int .u64 (t : Int), .int .u64 (fixN fx : Int), .int .u64 (q : Int)] 76)).heap[z]? = some (.cells #[.int .i64 (t : Int), .bool fx, .int .u64 (q : Int)] 80 (0, 0)) := (Below.heap_alloc _ _ _ (lt_of_block hS0)).trans hS0
      refine wh_val 9 (some 26) (.slice (some ⟨W.drew.heap.size, 0, none⟩) 3 3) (W.drew.alloc (.cells #[.int .u64 (t : Int), .int .u64 (fixN fx : Int), .int .u64 (q : Int)] 76)) (by kernel_rfl) rfl rfl (by rfl) (by first | rfl | go_simp) hS2 ?_
      simp only [Act.put, List.setIfInBounds_toArray, List.set_cons_zero, List.set_cons_succ]
      refine wh_call 10 (some 27) 39 #[u3, .slice (some ⟨W.drew.heap.size, 0, none⟩) 3 3] (by kernel_rfl) rfl rfl (by rfl) (by kernel_rfl) ?_
      have hszW := hnW.out.size
      refine (appendUlebs_any w.heap.size u3 cs W.drew.heap.size [t, fixN fx, q] _ (by intro m hm; simp at hm; omega) ((own_belV hownW (Keeps.drew W).below).alloc _) (heap_alloc_new _ _) (by simp; omega) (by simp; omega)).mono ?_
      rintro e w3 ⟨v3, rfl, hown3, hk3, hb3⟩
      have HB3 : Hid (Below w.heap.size w w3) := ((bel_step hnW.out (Keeps.drew W).below).alloc (by simp; omega) _).trans hb3
      have hS3 := keepO_block hk3 (by decide) hS2
      refine ⟨_, rfl, hS3, ?_⟩
      simp only [Act.put, List.setIfInBounds_toArray, List.set_cons_zero, List.set_cons_succ]
      refine wh_val 11 (some 3) v3 w3 (by kernel_rfl) rfl rfl (by rfl) (by rfl) hS3 ?_
      simp only [Act.put, List.setIfInBounds_toArray, List.set_cons_zero, List.set_cons_succ]
      refine wh_done (by kernel_rfl) ?_
      clear hS3 hS2 hS0 hk3 hb3 hownW hnW hxW O hszW HZ ht1
      go_wp2
      go_roundw
      case rel => exact ⟨k + 1, _, by omega, by go_num, HS.out.symm, by simp; omega, hown3, HB3⟩
      case measure => simp [intOf]; omega
    · have e : L.take k = L := List.take_of_length_le (by omega)
      have hcs' := hcs.out
      rw [e, ← HT.out] at hcs'
      subst hcs'
      clear hcs e
      have hcv := owned_string (P := Try.prog) 73 9 5 Try.underlying73 Try.underlying5 Try.underlying9 hown
      obtain ⟨ao, cp, rfl⟩ := ownsRow_shape hown
      clear hown
      go_wp2
      go_ret
      exact ⟨rfl, hnx.out⟩

set_option maxRecDepth 2000000 in
theorem implMagic (w : World) :
    Calls Try.prog 27 #[] w fun e w' => e = .returned (.string (str (leB 1836085504 4))) ∧ Below w.heap.size w w' := by
  have N := numberBytes 1836085504 4 (by decide) w
  go_enter Try.func27, Try.ntmps27
  go_wp2_with fail
  refine N.mono ?_
  rintro e w1 ⟨rfl, hb1⟩
  go_wp2
  go_ret
  exact ⟨rfl, hb1⟩

end Go.Proofs.Ytokaljglaholnaa

namespace Go.Proofs.Ytokaljglaholnaa
open Go.ChangeShapes Go.WideShapes Go.ChangeAt Go.RowKit

/-- Sections as the values of their cells. -/
def svV (L : List (Int × ByteArray)) : List Value := L.flatMap fun x => [.int .i64 x.1, .string x.2]
theorem sv_appV (L : List (Int × ByteArray)) (x : Int × ByteArray) : svV L ++ [.int .i64 x.1, .string x.2] = svV (L ++ [x]) := by simp [svV]
theorem sv_lenV (L : List (Int × ByteArray)) : (svV L).length = L.length * 2 := by
  induction L with
  | nil => rfl
  | cons x r ih => have e : svV (x :: r) = .int .i64 x.1 :: .string x.2 :: svV r := by simp [svV]
                   rw [e, List.length_cons, List.length_cons, ih, List.length_cons]; omega
theorem sv_getV (L : List (Int × ByteArray)) : ∀ i (h : i < L.length), (svV L)[i * 2]? = some (.int .i64 L[i].1) ∧ (svV L)[i * 2 + 1]? = some (.string L[i].2) := by
  induction L with
  | nil => intro i h; simp at h
  | cons x r ih =>
    intro i h
    have e : svV (x :: r) = .int .i64 x.1 :: .string x.2 :: svV r := by simp [svV]
    rw [e]
    cases i with
    | zero => simp
    | succ i =>
      have := ih i (by simpa using h)
      rw [show (i + 1) * 2 = i * 2 + 1 + 1 by omega]
      simpa using this
/-- What is known of a slice of sections that a call made. -/
theorem owned_secsV {w : World} {B : Nat} {e : TypeId} {v : Value} {L : List (Int × ByteArray)} (h : w.ownsRow B e 2 v L.length (svV L)) :
    ∃ a cap g, v = .slice a L.length cap ∧ (L ≠ [] → a = some ⟨g, 0, none⟩ ∧ g < w.heap.size) ∧ secAt w g 0 L ∧ (L ≠ [] → B ≤ g) := by
  rcases h.2 with ⟨rfl, h0⟩ | ⟨g, cap, cur, rfl, hg, hh, _, _, _, htake⟩
  · obtain rfl : L = [] := List.length_eq_zero_iff.1 h0
    exact ⟨none, 0, 0, rfl, fun h => absurd rfl h, fun i hi => absurd hi (by simp), fun h => absurd rfl h⟩
  · refine ⟨some ⟨g, 0, none⟩, cap, g, rfl, fun _ => ⟨rfl, lt_of_block hh⟩, fun i hi => ?_, fun _ => hg⟩
    have h1 := h.cellAt (i * 2) (by omega)
    have h2 := h.cellAt (i * 2 + 1) (by omega)
    have h3 := sv_getV L i hi
    rw [Nat.zero_add, h1, h2]
    exact h3

theorem two_newV (w : World) (x y : Value) (t : TypeId) : ∀ j u, [x, y][j]? = some u → (w.alloc (.cells #[x, y] t)).cell? ((⟨w.heap.size, 0, none⟩ : Addr).add j) = some u := by
  intro j u hj
  match j, hj with
  | 0, hj => simp at hj; subst hj; simp [Addr.add]
  | 1, hj => simp at hj; subst hj; simp [Addr.add]

/-- A block whose cells are these. -/
def BoxN (W : World) (B : Nat) (A : Array Value) (t : TypeId) : Prop := W.heap[B]? = some (.cells A t (0, 0))
theorem BoxN.kept {W W' : World} {row : Option Nat} {B : Nat} {t : TypeId} {A : Array Value} (h : BoxN W B A t) (hg : W.grownBy W' row) (hne : some B ≠ row) : BoxN W' B A t := (hg.block B (lt_of_block h) hne).trans h
theorem BoxN.alloc {W : World} {B : Nat} {t : TypeId} {A : Array Value} (h : BoxN W B A t) (o : Obj) : BoxN (W.alloc o) B A t := h.kept (World.grownBy_alloc W o none) (by simp)
/-- A row that is one's own, of another type, is not that block. -/
theorem BoxN.not_row {W : World} {B : Nat} {t e : TypeId} {A : Array Value} (h : BoxN W B A t) (hte : t ≠ e) {base size k : Nat} {v : Value} {xs : List Value} (hr : W.ownsRow base e size v k xs) : some B ≠ v.ownBlock := by
  rcases hr.2 with ⟨rfl, _⟩ | ⟨g, cap, cur, rfl, _, hgb, _⟩
  · simp [Value.ownBlock]
  · intro e'
    obtain rfl : B = g := by simpa [Value.ownBlock] using e'
    have := (show W.heap[B]? = _ from h).symm.trans hgb
    simp at this
    exact hte this.2

end Go.Proofs.Ytokaljglaholnaa

namespace Go.Proofs.Ytokaljglaholnaa
open Go.ChangeShapes Go.WideShapes Go.ChangeAt Go.RowKit Go.Shelf

/-- What comes: a section, and whether it has bytes. -/
abbrev Item := (Int × ByteArray) × Bool
def itemV (x : Item) : Array Value := #[.agg #[.int .i64 x.1.1, .string x.1.2], .bool x.2]
def fStr (L : List Fun7) : ByteArray := if L.all funOk = true then str (funsB L) else ⟨#[]⟩
def items (M : Mod7) : List Item :=
  (if 0 < M.fs.length then [((1, fStr M.fs), M.fs.all funOk)] else []) ++ ((if M.mem = true then [((5, str (pagB M)), true)] else []) ++ ((if 0 < M.gs.length then [((6, str (glosB M.gs)), true)] else []) ++ (if M.start = -1 then [] else [((8, str (ul 10 M.start.toNat)), true)])))
theorem funsRes_both (L : List Fun7) : funsRes L = .tuple #[.string (fStr L), .bool (L.all funOk)] := by
  unfold funsRes fStr
  by_cases h : L.all funOk = true
  · rw [if_pos h, if_pos h, h]
  · rw [if_neg h, if_neg h]
    have : L.all funOk = false := by simpa using h
    rw [this]
/-- What a round keeps: all below n, and the block B. -/
def Kp9 (n B : Nat) (W W' : World) : Prop := Below n W W' ∧ ∀ o, W.heap[B]? = some o → W'.heap[B]? = some o
theorem Kp9.trans {n B : Nat} {A C D : World} (h : Kp9 n B A C) (k : Kp9 n B C D) : Kp9 n B A D := ⟨h.1.trans k.1, fun o ho => k.2 o (h.2 o ho)⟩
def modBox (l : Loc7) (M : Mod7) : Obj := .cells #[.slice l.fa M.fs.length l.fc, .slice l.ga M.gs.length l.gc, .bool M.mem, .int .i64 M.pages, .int .i64 M.most, .int .i64 M.start] 32 (0, 0)
theorem goes {A B : World} (h : Below A.heap.size A B) : A.grownBy B none := ⟨h.os, h.tape, h.output, h.size, fun k hk _ => h.block k hk⟩
theorem shape_parts {M : Mod7} (h : shape M = true) : M.fs.length ≤ 10 ∧ M.gs.length ≤ 6 ∧ (∀ g ∈ M.gs, 0 ≤ g.ty ∧ g.ty ≤ 127) ∧ (M.mem = true → 0 ≤ M.pages ∧ M.pages ≤ 8 ∧ 0 ≤ M.most ∧ M.most ≤ 8) ∧ (M.start = -1 ∨ (0 ≤ M.start ∧ M.start ≤ 10)) := by
  unfold shape at h
  simp only [Bool.and_eq_true, decide_eq_true_eq] at h
  obtain ⟨⟨⟨⟨⟨h1, h2⟩, _⟩, h4⟩, h5⟩, h6⟩ := h
  refine ⟨h1, h2, fun g hg => ?_, fun hm => ?_, ?_⟩
  · have := List.all_eq_true.1 h4 g hg
    unfold goodG isT at this
    simp only [Bool.and_eq_true, decide_eq_true_eq] at this
    omega
  · unfold goodP at h5
    rw [if_pos hm] at h5
    simp only [Bool.and_eq_true, decide_eq_true_eq] at h5
    omega
  · unfold goodS at h6
    simp only [Bool.or_eq_true, Bool.and_eq_true, decide_eq_true_eq] at h6
    rcases h6 with h6 | ⟨h6, h7⟩
    · exact .inl h6
    · by_cases h8 : M.start.toNat < M.fs.length
      · exact .inr ⟨h6, by omega⟩
      · rw [List.getElem?_eq_none (by omega)] at h7
        simp at h7

set_option maxRecDepth 100000 in
set_option maxHeartbeats 8000000 in
theorem secs_stops (n : Nat) (hn : 1 ≤ n) (l : Loc7) (M : Mod7) (w0 w : World) (Bn : Nat) (hM : Hid (ModAt w0 l M)) (hs : Hid (smM M)) (hsh : Hid (shape M = true)) (hb0 : Hid (Below w0.heap.size w0 w)) (hbx : w.heap[Bn]? = some (modBox l M)) :
    SeqStopsK Fence.wide n Try.prog 55 #[.pointer (some ⟨Bn, 0, none⟩)] itemV (Kp9 w0.heap.size Bn) (fun xs => xs = items M) (fun pre => pre <+: items M) 4 w := fun lr J Jx W hW hJ hJx hY h0 => by
  have hxW := (hW.block Bn (lt_of_block hbx)).trans hbx
  have HBW : Hid (Below w0.heap.size w0 W) := bel_step hb0.out hW
  obtain ⟨p1, p2, p3, p4, p5⟩ := shape_parts hsh.out
  have HJ : Hid (∀ pre A B, J pre A → Below A.heap.size A B → J pre B) := fun pre A B ha hb => hJ pre A B none ha (goes hb) (fun r e => by cases e)
  have C2 : Hid (M.mem = true → ∀ W', Calls Try.prog 57 #[modV l M] W' fun e W'' => e = .returned (.string (str (pagB M))) ∧ Below W'.heap.size W' W'') := fun hm W' => implPagB l M W' (p4 hm).1 (p4 hm).2.1 (p4 hm).2.2.1 (p4 hm).2.2.2
  have HI : Hid (items M = [] ++ ((if 0 < M.fs.length then [((1, fStr M.fs), M.fs.all funOk)] else []) ++ ((if M.mem = true then [((5, str (pagB M)), true)] else []) ++ ((if 0 < M.gs.length then [((6, str (glosB M.gs)), true)] else []) ++ (if M.start = -1 then [] else [((8, str (ul 10 M.start.toNat)), true)]))))) := rfl
  generalize items M = IT at HI ⊢
  generalize str (pagB M) = S2 at C2 HI
  obtain ⟨fa, fc, ga, gc⟩ := l
  obtain ⟨fs, gs, mem, pages, most, start⟩ := M
  unfold modBox at hxW
  unfold modV at C2
  simp only at hxW C2 HI p1 p2 p3 p4 p5
  have C1 : Hid (∀ W', Below w0.heap.size w0 W' → Calls Try.prog 56 #[.slice fa fs.length fc] W' fun e W'' => e = .returned (.tuple #[.string (fStr fs), .bool (fs.all funOk)]) ∧ Below W'.heap.size W' W'') := fun W' h => by
    rw [← funsRes_both]; exact implFuncs fa fc fs W' (hM.out.1.below h) hs.out.2.2.1 p1
  have C3 : Hid (∀ W', Below w0.heap.size w0 W' → Calls Try.prog 58 #[.slice ga gs.length gc] W' fun e W'' => e = .returned (.string (str (glosB gs))) ∧ Below W'.heap.size W' W'') := fun W' h => implGlos ga gc gs W' (hM.out.2.below h) (fun g hg => ⟨hs.out.2.2.2 g hg, p3 g hg⟩) p2
  have C4 : Hid (start ≠ -1 → ∀ W', Calls Try.prog 59 #[.int .u64 start] W' fun e W'' => e = .returned (.string (str (ul 10 start.toNat))) ∧ Below W'.heap.size W' W'') := fun h W' => by
    obtain ⟨k, rfl⟩ : ∃ k : Nat, start = k := ⟨start.toNat, by omega⟩
    exact implUlebBytes k (by unfold Hid; omega) W'
  have hu4 : start ≠ -1 → IntKind.u64.wrap start = start := fun h => by rw [IntKind.wrap_u64]; omega
  have HU4 : Hid (start ≠ -1 → IntKind.u64.wrap start = start) := hu4
  generalize fStr fs = S1 at C1 HI
  generalize fs.all funOk = O1 at C1 HI
  generalize str (glosB gs) = S3 at C3 HI
  generalize str (ul 10 start.toNat) = S4 at C4 HI
  have HY : Hid (∀ (pre : List Item) (x : Item) (W1 : World), J pre W1 → pre.length < 4 → YieldAt Fence.wide (n - 1) Try.prog lr (itemV x) W1 fun e W' => (e = .returned (.bool true) ∧ J (pre ++ [x]) W' ∧ Kp9 w0.heap.size Bn W1 W') ∨ (e = .returned (.bool false) ∧ Jx (pre ++ [x]) W')) := hY
  clear hM hs hsh hb0 hbx hW hJ hJx hY p1 p2 p3 p4 p5 hu4
  unfold itemV at HY
  refine callsIn_of_wp Try.func55 rfl trivial ?_ rfl
  simp only [Try.ntmps55, List.size_toArray, List.length_cons, List.length_nil, Nat.reduceAdd, Nat.reduceSub, Array.replicate_succ, Array.replicate_zero, List.push_toArray, List.append_toArray, List.nil_append, List.cons_append]
  by_cases h1 : 0 < fs.length
  · skip
    have HI1 : Hid (IT = [((1, S1), O1)] ++ ((if mem = true then [((5, S2), true)] else []) ++ ((if 0 < gs.length then [((6, S3), true)] else []) ++ (if start = -1 then [] else [((8, S4), true)])))) := by have h := HI.out; rw [if_pos h1] at h; exact h
    clear HI
    have t1 : (0 : Int) < fs.length := by omega
    have x0_1 : W.cell? ⟨Bn, 0, none⟩ = some (.slice fa fs.length fc) := (cell_of_block hxW 0).trans rfl
    gi_wp2_with fail
    refine ⟨trivial, (callsIn_wide.2 (C1.out W HBW.out)).mono ?_⟩
    rintro e V1 ⟨rfl, hb1⟩
    have HBv1 : Hid (Below w0.heap.size w0 V1) := bel_step HBW.out hb1
    have hxv1 := (hb1.block Bn (lt_of_block hxW)).trans hxW
    have hJv1 : J [] V1 := HJ.out _ _ _ h0 hb1
    obtain ⟨ff1, tt1, aa1, bb1, hy1, hR1⟩ := HY.out [] ((1, S1), O1) V1 hJv1 (by simp)
    dsimp only at hy1
    clear x0_1 hb1 t1
    gi_wp2_with fail
    refine hR1.mono ?_
    rintro e U1 (⟨rfl, hJu1, hk1⟩ | ⟨rfl, hJx1⟩)
    · have HBu1 : Hid (Below w0.heap.size w0 U1) := HBv1.out.trans hk1.1
      have hxu1 := hk1.2 _ hxv1
      have hJw1 : J [((1, S1), O1)] U1 := hJu1
      clear hy1 hR1 hJu1 hk1 hxv1 HBv1 hJv1
      by_cases h2 : mem = true
      · skip
        have HI2 : Hid (IT = [((1, S1), O1), ((5, S2), true)] ++ ((if 0 < gs.length then [((6, S3), true)] else []) ++ (if start = -1 then [] else [((8, S4), true)]))) := by have h := HI1.out; rw [if_pos h2] at h; exact h
        clear HI1
        have t2 : mem = true := h2
        subst t2
        have x0_2 : U1.cell? ⟨Bn, 0, none⟩ = some (.slice fa fs.length fc) := (cell_of_block hxu1 0).trans rfl
        have x1_2 : U1.cell? ⟨Bn, 1, none⟩ = some (.slice ga gs.length gc) := (cell_of_block hxu1 1).trans rfl
        have x2_2 : U1.cell? ⟨Bn, 2, none⟩ = some (.bool true) := (cell_of_block hxu1 2).trans rfl
        have x3_2 : U1.cell? ⟨Bn, 3, none⟩ = some (.int .i64 pages) := (cell_of_block hxu1 3).trans rfl
        have x4_2 : U1.cell? ⟨Bn, 4, none⟩ = some (.int .i64 most) := (cell_of_block hxu1 4).trans rfl
        have x5_2 : U1.cell? ⟨Bn, 5, none⟩ = some (.int .i64 start) := (cell_of_block hxu1 5).trans rfl
        gi_wp2_with fail
        refine ⟨trivial, (callsIn_wide.2 (C2.out (by trivial) U1)).mono ?_⟩
        rintro e V2 ⟨rfl, hb2⟩
        have HBv2 : Hid (Below w0.heap.size w0 V2) := bel_step HBu1.out hb2
        have hxv2 := (hb2.block Bn (lt_of_block hxu1)).trans hxu1
        have hJv2 : J [((1, S1), O1)] V2 := HJ.out _ _ _ hJw1 hb2
        obtain ⟨ff2, tt2, aa2, bb2, hy2, hR2⟩ := HY.out [((1, S1), O1)] ((5, S2), true) V2 hJv2 (by simp)
        dsimp only at hy2
        clear x0_2 x1_2 x2_2 x3_2 x4_2 x5_2 hb2
        gi_wp2_with fail
        refine hR2.mono ?_
        rintro e U2 (⟨rfl, hJu2, hk2⟩ | ⟨rfl, hJx2⟩)
        · have HBu2 : Hid (Below w0.heap.size w0 U2) := HBv2.out.trans hk2.1
          have hxu2 := hk2.2 _ hxv2
          have hJw2 : J [((1, S1), O1), ((5, S2), true)] U2 := hJu2
          clear hy2 hR2 hJu2 hk2 hxv2 HBv2 hJv2
          by_cases h3 : 0 < gs.length
          · skip
            have HI3 : Hid (IT = [((1, S1), O1), ((5, S2), true), ((6, S3), true)] ++ (if start = -1 then [] else [((8, S4), true)])) := by have h := HI2.out; rw [if_pos h3] at h; exact h
            clear HI2
            have t3 : (0 : Int) < gs.length := by omega
            have x1_3 : U2.cell? ⟨Bn, 1, none⟩ = some (.slice ga gs.length gc) := (cell_of_block hxu2 1).trans rfl
            gi_wp2_with fail
            refine ⟨trivial, (callsIn_wide.2 (C3.out U2 HBu2.out)).mono ?_⟩
            rintro e V3 ⟨rfl, hb3⟩
            have HBv3 : Hid (Below w0.heap.size w0 V3) := bel_step HBu2.out hb3
            have hxv3 := (hb3.block Bn (lt_of_block hxu2)).trans hxu2
            have hJv3 : J [((1, S1), O1), ((5, S2), true)] V3 := HJ.out _ _ _ hJw2 hb3
            obtain ⟨ff3, tt3, aa3, bb3, hy3, hR3⟩ := HY.out [((1, S1), O1), ((5, S2), true)] ((6, S3), true) V3 hJv3 (by simp)
            dsimp only at hy3
            clear x1_3 hb3 t3
            gi_wp2_with fail
            refine hR3.mono ?_
            rintro e U3 (⟨rfl, hJu3, hk3⟩ | ⟨rfl, hJx3⟩)
            · have HBu3 : Hid (Below w0.heap.size w0 U3) := HBv3.out.trans hk3.1
              have hxu3 := hk3.2 _ hxv3
              have hJw3 : J [((1, S1), O1), ((5, S2), true), ((6, S3), true)] U3 := hJu3
              clear hy3 hR3 hJu3 hk3 hxv3 HBv3 hJv3
              by_cases h4 : start = -1
              · skip
                have HI4 : Hid (IT = [((1, S1), O1), ((5, S2), true), ((6, S3), true)]) := by have h := HI3.out; rw [if_pos h4] at h; exact h
                clear HI3
                subst h4
                have x5_4 : U3.cell? ⟨Bn, 5, none⟩ = some (.int .i64 (-1)) := (cell_of_block hxu3 5).trans rfl
                gi_wp2_with fail
                go_end0
                exact ⟨⟨_, rfl⟩, .inl ⟨_, HI4.out.symm, hJw3⟩⟩
              · skip
                have HI4 : Hid (IT = [((1, S1), O1), ((5, S2), true), ((6, S3), true), ((8, S4), true)]) := by have h := HI3.out; rw [if_neg h4] at h; exact h
                clear HI3
                have t4 : (start == -1) = false := by simpa using h4
                have u4 := HU4.out h4
                have x5_4 : U3.cell? ⟨Bn, 5, none⟩ = some (.int .i64 start) := (cell_of_block hxu3 5).trans rfl
                gi_wp2_with fail
                refine ⟨trivial, (callsIn_wide.2 (C4.out h4 U3)).mono ?_⟩
                rintro e V4 ⟨rfl, hb4⟩
                have HBv4 : Hid (Below w0.heap.size w0 V4) := bel_step HBu3.out hb4
                have hxv4 := (hb4.block Bn (lt_of_block hxu3)).trans hxu3
                have hJv4 : J [((1, S1), O1), ((5, S2), true), ((6, S3), true)] V4 := HJ.out _ _ _ hJw3 hb4
                obtain ⟨ff4, tt4, aa4, bb4, hy4, hR4⟩ := HY.out [((1, S1), O1), ((5, S2), true), ((6, S3), true)] ((8, S4), true) V4 hJv4 (by simp)
                dsimp only at hy4
                clear x5_4 hb4 t4 u4
                gi_wp2_with fail
                refine hR4.mono ?_
                rintro e U4 (⟨rfl, hJu4, hk4⟩ | ⟨rfl, hJx4⟩)
                · have HBu4 : Hid (Below w0.heap.size w0 U4) := HBv4.out.trans hk4.1
                  have hxu4 := hk4.2 _ hxv4
                  have hJw4 : J [((1, S1), O1), ((5, S2), true), ((6, S3), true), ((8, S4), true)] U4 := hJu4
                  clear hy4 hR4 hJu4 hk4 hxv4 HBv4 hJv4
                  gi_wp2_with fail
                  go_end0
                  exact ⟨⟨_, rfl⟩, .inl ⟨_, HI4.out.symm, hJw4⟩⟩
                · have HX4 : Jx [((1, S1), O1), ((5, S2), true), ((6, S3), true), ((8, S4), true)] U4 := hJx4
                  clear hy4 hR4
                  gi_wp2_with fail
                  go_end0
                  exact ⟨⟨_, rfl⟩, .inr ⟨_, ⟨[], by rw [HI4.out]; rfl⟩, HX4⟩⟩
            · have HX3 : Jx [((1, S1), O1), ((5, S2), true), ((6, S3), true)] U3 := hJx3
              clear hy3 hR3
              gi_wp2_with fail
              refine bodyPost_ret (results_none rfl _ _ _) rfl ?_
              exact ⟨⟨_, rfl⟩, .inr ⟨_, ⟨(if start = -1 then [] else [((8, S4), true)]), HI3.out.symm⟩, HX3⟩⟩
          · skip
            have HI3 : Hid (IT = [((1, S1), O1), ((5, S2), true)] ++ (if start = -1 then [] else [((8, S4), true)])) := by have h := HI2.out; rw [if_neg h3] at h; exact h
            clear HI2
            have t3 : (gs.length : Int) ≤ 0 := by omega
            have x1_3 : U2.cell? ⟨Bn, 1, none⟩ = some (.slice ga gs.length gc) := (cell_of_block hxu2 1).trans rfl
            by_cases h4 : start = -1
            · skip
              have HI5 : Hid (IT = [((1, S1), O1), ((5, S2), true)]) := by have h := HI3.out; rw [if_pos h4] at h; exact h
              clear HI3
              subst h4
              have x5_5 : U2.cell? ⟨Bn, 5, none⟩ = some (.int .i64 (-1)) := (cell_of_block hxu2 5).trans rfl
              gi_wp2_with fail
              refine ⟨trivial, ?_⟩
              gi_wp2_with fail
              first | (refine ⟨fun _ h => (by cases h), ?_⟩; gi_wp2_with fail) | skip
              go_end0
              exact ⟨⟨_, rfl⟩, .inl ⟨_, HI5.out.symm, hJw2⟩⟩
            · skip
              have HI5 : Hid (IT = [((1, S1), O1), ((5, S2), true), ((8, S4), true)]) := by have h := HI3.out; rw [if_neg h4] at h; exact h
              clear HI3
              have t4 : (start == -1) = false := by simpa using h4
              have u4 := HU4.out h4
              have x5_5 : U2.cell? ⟨Bn, 5, none⟩ = some (.int .i64 start) := (cell_of_block hxu2 5).trans rfl
              gi_wp2_with fail
              refine ⟨trivial, ?_⟩
              gi_wp2_with fail
              first | (refine ⟨fun _ h => (by cases h), ?_⟩; gi_wp2_with fail) | skip
              refine ⟨trivial, (callsIn_wide.2 (C4.out h4 U2)).mono ?_⟩
              rintro e V5 ⟨rfl, hb5⟩
              have HBv5 : Hid (Below w0.heap.size w0 V5) := bel_step HBu2.out hb5
              have hxv5 := (hb5.block Bn (lt_of_block hxu2)).trans hxu2
              have hJv5 : J [((1, S1), O1), ((5, S2), true)] V5 := HJ.out _ _ _ hJw2 hb5
              obtain ⟨ff5, tt5, aa5, bb5, hy5, hR5⟩ := HY.out [((1, S1), O1), ((5, S2), true)] ((8, S4), true) V5 hJv5 (by simp)
              dsimp only at hy5
              clear x1_3 x5_5 hb5 t4 u4
              gi_wp2_with fail
              refine hR5.mono ?_
              rintro e U5 (⟨rfl, hJu5, hk5⟩ | ⟨rfl, hJx5⟩)
              · have HBu5 : Hid (Below w0.heap.size w0 U5) := HBv5.out.trans hk5.1
                have hxu5 := hk5.2 _ hxv5
                have hJw5 : J [((1, S1), O1), ((5, S2), true), ((8, S4), true)] U5 := hJu5
                clear hy5 hR5 hJu5 hk5 hxv5 HBv5 hJv5
                gi_wp2_with fail
                go_end0
                exact ⟨⟨_, rfl⟩, .inl ⟨_, HI5.out.symm, hJw5⟩⟩
              · have HX5 : Jx [((1, S1), O1), ((5, S2), true), ((8, S4), true)] U5 := hJx5
                clear hy5 hR5
                gi_wp2_with fail
                go_end0
                exact ⟨⟨_, rfl⟩, .inr ⟨_, ⟨[], by rw [HI5.out]; rfl⟩, HX5⟩⟩
        · have HX2 : Jx [((1, S1), O1), ((5, S2), true)] U2 := hJx2
          clear hy2 hR2
          gi_wp2_with fail
          refine bodyPost_ret (results_none rfl _ _ _) rfl ?_
          exact ⟨⟨_, rfl⟩, .inr ⟨_, ⟨((if 0 < gs.length then [((6, S3), true)] else []) ++ (if start = -1 then [] else [((8, S4), true)])), HI2.out.symm⟩, HX2⟩⟩
      · skip
        have HI2 : Hid (IT = [((1, S1), O1)] ++ ((if 0 < gs.length then [((6, S3), true)] else []) ++ (if start = -1 then [] else [((8, S4), true)]))) := by have h := HI1.out; rw [if_neg h2] at h; exact h
        clear HI1
        have t2 : mem = false := by simpa using h2
        subst t2
        have x2_2 : U1.cell? ⟨Bn, 2, none⟩ = some (.bool false) := (cell_of_block hxu1 2).trans rfl
        gi_wp2_with fail
        refine ⟨trivial, ?_⟩
        gi_wp2_with fail
        refine ⟨fun _ h => (by cases h), ?_⟩
        by_cases h3 : 0 < gs.length
        · skip
          have HI6 : Hid (IT = [((1, S1), O1), ((6, S3), true)] ++ (if start = -1 then [] else [((8, S4), true)])) := by have h := HI2.out; rw [if_pos h3] at h; exact h
          clear HI2
          have t3 : (0 : Int) < gs.length := by omega
          have x1_6 : U1.cell? ⟨Bn, 1, none⟩ = some (.slice ga gs.length gc) := (cell_of_block hxu1 1).trans rfl
          gi_wp2_with fail
          refine ⟨trivial, (callsIn_wide.2 (C3.out U1 HBu1.out)).mono ?_⟩
          rintro e V6 ⟨rfl, hb6⟩
          have HBv6 : Hid (Below w0.heap.size w0 V6) := bel_step HBu1.out hb6
          have hxv6 := (hb6.block Bn (lt_of_block hxu1)).trans hxu1
          have hJv6 : J [((1, S1), O1)] V6 := HJ.out _ _ _ hJw1 hb6
          obtain ⟨ff6, tt6, aa6, bb6, hy6, hR6⟩ := HY.out [((1, S1), O1)] ((6, S3), true) V6 hJv6 (by simp)
          dsimp only at hy6
          clear x2_2 x1_6 hb6 t3
          gi_wp2_with fail
          refine hR6.mono ?_
          rintro e U6 (⟨rfl, hJu6, hk6⟩ | ⟨rfl, hJx6⟩)
          · have HBu6 : Hid (Below w0.heap.size w0 U6) := HBv6.out.trans hk6.1
            have hxu6 := hk6.2 _ hxv6
            have hJw6 : J [((1, S1), O1), ((6, S3), true)] U6 := hJu6
            clear hy6 hR6 hJu6 hk6 hxv6 HBv6 hJv6
            by_cases h4 : start = -1
            · skip
              have HI7 : Hid (IT = [((1, S1), O1), ((6, S3), true)]) := by have h := HI6.out; rw [if_pos h4] at h; exact h
              clear HI6
              subst h4
              have x5_7 : U6.cell? ⟨Bn, 5, none⟩ = some (.int .i64 (-1)) := (cell_of_block hxu6 5).trans rfl
              gi_wp2_with fail
              go_end0
              exact ⟨⟨_, rfl⟩, .inl ⟨_, HI7.out.symm, hJw6⟩⟩
            · skip
              have HI7 : Hid (IT = [((1, S1), O1), ((6, S3), true), ((8, S4), true)]) := by have h := HI6.out; rw [if_neg h4] at h; exact h
              clear HI6
              have t4 : (start == -1) = false := by simpa using h4
              have u4 := HU4.out h4
              have x5_7 : U6.cell? ⟨Bn, 5, none⟩ = some (.int .i64 start) := (cell_of_block hxu6 5).trans rfl
              gi_wp2_with fail
              refine ⟨trivial, (callsIn_wide.2 (C4.out h4 U6)).mono ?_⟩
              rintro e V7 ⟨rfl, hb7⟩
              have HBv7 : Hid (Below w0.heap.size w0 V7) := bel_step HBu6.out hb7
              have hxv7 := (hb7.block Bn (lt_of_block hxu6)).trans hxu6
              have hJv7 : J [((1, S1), O1), ((6, S3), true)] V7 := HJ.out _ _ _ hJw6 hb7
              obtain ⟨ff7, tt7, aa7, bb7, hy7, hR7⟩ := HY.out [((1, S1), O1), ((6, S3), true)] ((8, S4), true) V7 hJv7 (by simp)
              dsimp only at hy7
              clear x5_7 hb7 t4 u4
              gi_wp2_with fail
              refine hR7.mono ?_
              rintro e U7 (⟨rfl, hJu7, hk7⟩ | ⟨rfl, hJx7⟩)
              · have HBu7 : Hid (Below w0.heap.size w0 U7) := HBv7.out.trans hk7.1
                have hxu7 := hk7.2 _ hxv7
                have hJw7 : J [((1, S1), O1), ((6, S3), true), ((8, S4), true)] U7 := hJu7
                clear hy7 hR7 hJu7 hk7 hxv7 HBv7 hJv7
                gi_wp2_with fail
                go_end0
                exact ⟨⟨_, rfl⟩, .inl ⟨_, HI7.out.symm, hJw7⟩⟩
              · have HX7 : Jx [((1, S1), O1), ((6, S3), true), ((8, S4), true)] U7 := hJx7
                clear hy7 hR7
                gi_wp2_with fail
                go_end0
                exact ⟨⟨_, rfl⟩, .inr ⟨_, ⟨[], by rw [HI7.out]; rfl⟩, HX7⟩⟩
          · have HX6 : Jx [((1, S1), O1), ((6, S3), true)] U6 := hJx6
            clear hy6 hR6
            gi_wp2_with fail
            refine bodyPost_ret (results_none rfl _ _ _) rfl ?_
            exact ⟨⟨_, rfl⟩, .inr ⟨_, ⟨(if start = -1 then [] else [((8, S4), true)]), HI6.out.symm⟩, HX6⟩⟩
        · skip
          have HI6 : Hid (IT = [((1, S1), O1)] ++ (if start = -1 then [] else [((8, S4), true)])) := by have h := HI2.out; rw [if_neg h3] at h; exact h
          clear HI2
          have t3 : (gs.length : Int) ≤ 0 := by omega
          have x1_6 : U1.cell? ⟨Bn, 1, none⟩ = some (.slice ga gs.length gc) := (cell_of_block hxu1 1).trans rfl
          by_cases h4 : start = -1
          · skip
            have HI8 : Hid (IT = [((1, S1), O1)]) := by have h := HI6.out; rw [if_pos h4] at h; exact h
            clear HI6
            subst h4
            have x5_8 : U1.cell? ⟨Bn, 5, none⟩ = some (.int .i64 (-1)) := (cell_of_block hxu1 5).trans rfl
            gi_wp2_with fail
            refine ⟨trivial, ?_⟩
            gi_wp2_with fail
            first | (refine ⟨fun _ h => (by cases h), ?_⟩; gi_wp2_with fail) | skip
            go_end0
            exact ⟨⟨_, rfl⟩, .inl ⟨_, HI8.out.symm, hJw1⟩⟩
          · skip
            have HI8 : Hid (IT = [((1, S1), O1), ((8, S4), true)]) := by have h := HI6.out; rw [if_neg h4] at h; exact h
            clear HI6
            have t4 : (start == -1) = false := by simpa using h4
            have u4 := HU4.out h4
            have x5_8 : U1.cell? ⟨Bn, 5, none⟩ = some (.int .i64 start) := (cell_of_block hxu1 5).trans rfl
            gi_wp2_with fail
            refine ⟨trivial, ?_⟩
            gi_wp2_with fail
            first | (refine ⟨fun _ h => (by cases h), ?_⟩; gi_wp2_with fail) | skip
            refine ⟨trivial, (callsIn_wide.2 (C4.out h4 U1)).mono ?_⟩
            rintro e V8 ⟨rfl, hb8⟩
            have HBv8 : Hid (Below w0.heap.size w0 V8) := bel_step HBu1.out hb8
            have hxv8 := (hb8.block Bn (lt_of_block hxu1)).trans hxu1
            have hJv8 : J [((1, S1), O1)] V8 := HJ.out _ _ _ hJw1 hb8
            obtain ⟨ff8, tt8, aa8, bb8, hy8, hR8⟩ := HY.out [((1, S1), O1)] ((8, S4), true) V8 hJv8 (by simp)
            dsimp only at hy8
            clear x2_2 x1_6 x5_8 hb8 t4 u4
            gi_wp2_with fail
            refine hR8.mono ?_
            rintro e U8 (⟨rfl, hJu8, hk8⟩ | ⟨rfl, hJx8⟩)
            · have HBu8 : Hid (Below w0.heap.size w0 U8) := HBv8.out.trans hk8.1
              have hxu8 := hk8.2 _ hxv8
              have hJw8 : J [((1, S1), O1), ((8, S4), true)] U8 := hJu8
              clear hy8 hR8 hJu8 hk8 hxv8 HBv8 hJv8
              gi_wp2_with fail
              go_end0
              exact ⟨⟨_, rfl⟩, .inl ⟨_, HI8.out.symm, hJw8⟩⟩
            · have HX8 : Jx [((1, S1), O1), ((8, S4), true)] U8 := hJx8
              clear hy8 hR8
              gi_wp2_with fail
              go_end0
              exact ⟨⟨_, rfl⟩, .inr ⟨_, ⟨[], by rw [HI8.out]; rfl⟩, HX8⟩⟩
    · have HX1 : Jx [((1, S1), O1)] U1 := hJx1
      clear hy1 hR1
      gi_wp2_with fail
      refine bodyPost_ret (results_none rfl _ _ _) rfl ?_
      exact ⟨⟨_, rfl⟩, .inr ⟨_, ⟨((if mem = true then [((5, S2), true)] else []) ++ ((if 0 < gs.length then [((6, S3), true)] else []) ++ (if start = -1 then [] else [((8, S4), true)]))), HI1.out.symm⟩, HX1⟩⟩
  · skip
    have HI1 : Hid (IT = [] ++ ((if mem = true then [((5, S2), true)] else []) ++ ((if 0 < gs.length then [((6, S3), true)] else []) ++ (if start = -1 then [] else [((8, S4), true)])))) := by have h := HI.out; rw [if_neg h1] at h; exact h
    clear HI
    have t1 : (fs.length : Int) ≤ 0 := by omega
    have x0_1 : W.cell? ⟨Bn, 0, none⟩ = some (.slice fa fs.length fc) := (cell_of_block hxW 0).trans rfl
    by_cases h2 : mem = true
    · skip
      have HI9 : Hid (IT = [((5, S2), true)] ++ ((if 0 < gs.length then [((6, S3), true)] else []) ++ (if start = -1 then [] else [((8, S4), true)]))) := by have h := HI1.out; rw [if_pos h2] at h; exact h
      clear HI1
      have t2 : mem = true := h2
      subst t2
      have x0_9 : W.cell? ⟨Bn, 0, none⟩ = some (.slice fa fs.length fc) := (cell_of_block hxW 0).trans rfl
      have x1_9 : W.cell? ⟨Bn, 1, none⟩ = some (.slice ga gs.length gc) := (cell_of_block hxW 1).trans rfl
      have x2_9 : W.cell? ⟨Bn, 2, none⟩ = some (.bool true) := (cell_of_block hxW 2).trans rfl
      have x3_9 : W.cell? ⟨Bn, 3, none⟩ = some (.int .i64 pages) := (cell_of_block hxW 3).trans rfl
      have x4_9 : W.cell? ⟨Bn, 4, none⟩ = some (.int .i64 most) := (cell_of_block hxW 4).trans rfl
      have x5_9 : W.cell? ⟨Bn, 5, none⟩ = some (.int .i64 start) := (cell_of_block hxW 5).trans rfl
      gi_wp2_with fail
      refine ⟨trivial, (callsIn_wide.2 (C2.out (by trivial) W)).mono ?_⟩
      rintro e V9 ⟨rfl, hb9⟩
      have HBv9 : Hid (Below w0.heap.size w0 V9) := bel_step HBW.out hb9
      have hxv9 := (hb9.block Bn (lt_of_block hxW)).trans hxW
      have hJv9 : J [] V9 := HJ.out _ _ _ h0 hb9
      obtain ⟨ff9, tt9, aa9, bb9, hy9, hR9⟩ := HY.out [] ((5, S2), true) V9 hJv9 (by simp)
      dsimp only at hy9
      clear x0_1 x0_9 x1_9 x2_9 x3_9 x4_9 x5_9 hb9
      gi_wp2_with fail
      refine hR9.mono ?_
      rintro e U9 (⟨rfl, hJu9, hk9⟩ | ⟨rfl, hJx9⟩)
      · have HBu9 : Hid (Below w0.heap.size w0 U9) := HBv9.out.trans hk9.1
        have hxu9 := hk9.2 _ hxv9
        have hJw9 : J [((5, S2), true)] U9 := hJu9
        clear hy9 hR9 hJu9 hk9 hxv9 HBv9 hJv9
        by_cases h3 : 0 < gs.length
        · skip
          have HI10 : Hid (IT = [((5, S2), true), ((6, S3), true)] ++ (if start = -1 then [] else [((8, S4), true)])) := by have h := HI9.out; rw [if_pos h3] at h; exact h
          clear HI9
          have t3 : (0 : Int) < gs.length := by omega
          have x1_10 : U9.cell? ⟨Bn, 1, none⟩ = some (.slice ga gs.length gc) := (cell_of_block hxu9 1).trans rfl
          gi_wp2_with fail
          refine ⟨trivial, (callsIn_wide.2 (C3.out U9 HBu9.out)).mono ?_⟩
          rintro e V10 ⟨rfl, hb10⟩
          have HBv10 : Hid (Below w0.heap.size w0 V10) := bel_step HBu9.out hb10
          have hxv10 := (hb10.block Bn (lt_of_block hxu9)).trans hxu9
          have hJv10 : J [((5, S2), true)] V10 := HJ.out _ _ _ hJw9 hb10
          obtain ⟨ff10, tt10, aa10, bb10, hy10, hR10⟩ := HY.out [((5, S2), true)] ((6, S3), true) V10 hJv10 (by simp)
          dsimp only at hy10
          clear x1_10 hb10 t3
          gi_wp2_with fail
          refine hR10.mono ?_
          rintro e U10 (⟨rfl, hJu10, hk10⟩ | ⟨rfl, hJx10⟩)
          · have HBu10 : Hid (Below w0.heap.size w0 U10) := HBv10.out.trans hk10.1
            have hxu10 := hk10.2 _ hxv10
            have hJw10 : J [((5, S2), true), ((6, S3), true)] U10 := hJu10
            clear hy10 hR10 hJu10 hk10 hxv10 HBv10 hJv10
            by_cases h4 : start = -1
            · skip
              have HI11 : Hid (IT = [((5, S2), true), ((6, S3), true)]) := by have h := HI10.out; rw [if_pos h4] at h; exact h
              clear HI10
              subst h4
              have x5_11 : U10.cell? ⟨Bn, 5, none⟩ = some (.int .i64 (-1)) := (cell_of_block hxu10 5).trans rfl
              gi_wp2_with fail
              go_end0
              exact ⟨⟨_, rfl⟩, .inl ⟨_, HI11.out.symm, hJw10⟩⟩
            · skip
              have HI11 : Hid (IT = [((5, S2), true), ((6, S3), true), ((8, S4), true)]) := by have h := HI10.out; rw [if_neg h4] at h; exact h
              clear HI10
              have t4 : (start == -1) = false := by simpa using h4
              have u4 := HU4.out h4
              have x5_11 : U10.cell? ⟨Bn, 5, none⟩ = some (.int .i64 start) := (cell_of_block hxu10 5).trans rfl
              gi_wp2_with fail
              refine ⟨trivial, (callsIn_wide.2 (C4.out h4 U10)).mono ?_⟩
              rintro e V11 ⟨rfl, hb11⟩
              have HBv11 : Hid (Below w0.heap.size w0 V11) := bel_step HBu10.out hb11
              have hxv11 := (hb11.block Bn (lt_of_block hxu10)).trans hxu10
              have hJv11 : J [((5, S2), true), ((6, S3), true)] V11 := HJ.out _ _ _ hJw10 hb11
              obtain ⟨ff11, tt11, aa11, bb11, hy11, hR11⟩ := HY.out [((5, S2), true), ((6, S3), true)] ((8, S4), true) V11 hJv11 (by simp)
              dsimp only at hy11
              clear x5_11 hb11 t4 u4
              gi_wp2_with fail
              refine hR11.mono ?_
              rintro e U11 (⟨rfl, hJu11, hk11⟩ | ⟨rfl, hJx11⟩)
              · have HBu11 : Hid (Below w0.heap.size w0 U11) := HBv11.out.trans hk11.1
                have hxu11 := hk11.2 _ hxv11
                have hJw11 : J [((5, S2), true), ((6, S3), true), ((8, S4), true)] U11 := hJu11
                clear hy11 hR11 hJu11 hk11 hxv11 HBv11 hJv11
                gi_wp2_with fail
                go_end0
                exact ⟨⟨_, rfl⟩, .inl ⟨_, HI11.out.symm, hJw11⟩⟩
              · have HX11 : Jx [((5, S2), true), ((6, S3), true), ((8, S4), true)] U11 := hJx11
                clear hy11 hR11
                gi_wp2_with fail
                go_end0
                exact ⟨⟨_, rfl⟩, .inr ⟨_, ⟨[], by rw [HI11.out]; rfl⟩, HX11⟩⟩
          · have HX10 : Jx [((5, S2), true), ((6, S3), true)] U10 := hJx10
            clear hy10 hR10
            gi_wp2_with fail
            refine bodyPost_ret (results_none rfl _ _ _) rfl ?_
            exact ⟨⟨_, rfl⟩, .inr ⟨_, ⟨(if start = -1 then [] else [((8, S4), true)]), HI10.out.symm⟩, HX10⟩⟩
        · skip
          have HI10 : Hid (IT = [((5, S2), true)] ++ (if start = -1 then [] else [((8, S4), true)])) := by have h := HI9.out; rw [if_neg h3] at h; exact h
          clear HI9
          have t3 : (gs.length : Int) ≤ 0 := by omega
          have x1_10 : U9.cell? ⟨Bn, 1, none⟩ = some (.slice ga gs.length gc) := (cell_of_block hxu9 1).trans rfl
          by_cases h4 : start = -1
          · skip
            have HI12 : Hid (IT = [((5, S2), true)]) := by have h := HI10.out; rw [if_pos h4] at h; exact h
            clear HI10
            subst h4
            have x5_12 : U9.cell? ⟨Bn, 5, none⟩ = some (.int .i64 (-1)) := (cell_of_block hxu9 5).trans rfl
            gi_wp2_with fail
            refine ⟨trivial, ?_⟩
            gi_wp2_with fail
            first | (refine ⟨fun _ h => (by cases h), ?_⟩; gi_wp2_with fail) | skip
            go_end0
            exact ⟨⟨_, rfl⟩, .inl ⟨_, HI12.out.symm, hJw9⟩⟩
          · skip
            have HI12 : Hid (IT = [((5, S2), true), ((8, S4), true)]) := by have h := HI10.out; rw [if_neg h4] at h; exact h
            clear HI10
            have t4 : (start == -1) = false := by simpa using h4
            have u4 := HU4.out h4
            have x5_12 : U9.cell? ⟨Bn, 5, none⟩ = some (.int .i64 start) := (cell_of_block hxu9 5).trans rfl
            gi_wp2_with fail
            refine ⟨trivial, ?_⟩
            gi_wp2_with fail
            first | (refine ⟨fun _ h => (by cases h), ?_⟩; gi_wp2_with fail) | skip
            refine ⟨trivial, (callsIn_wide.2 (C4.out h4 U9)).mono ?_⟩
            rintro e V12 ⟨rfl, hb12⟩
            have HBv12 : Hid (Below w0.heap.size w0 V12) := bel_step HBu9.out hb12
            have hxv12 := (hb12.block Bn (lt_of_block hxu9)).trans hxu9
            have hJv12 : J [((5, S2), true)] V12 := HJ.out _ _ _ hJw9 hb12
            obtain ⟨ff12, tt12, aa12, bb12, hy12, hR12⟩ := HY.out [((5, S2), true)] ((8, S4), true) V12 hJv12 (by simp)
            dsimp only at hy12
            clear x1_10 x5_12 hb12 t4 u4
            gi_wp2_with fail
            refine hR12.mono ?_
            rintro e U12 (⟨rfl, hJu12, hk12⟩ | ⟨rfl, hJx12⟩)
            · have HBu12 : Hid (Below w0.heap.size w0 U12) := HBv12.out.trans hk12.1
              have hxu12 := hk12.2 _ hxv12
              have hJw12 : J [((5, S2), true), ((8, S4), true)] U12 := hJu12
              clear hy12 hR12 hJu12 hk12 hxv12 HBv12 hJv12
              gi_wp2_with fail
              go_end0
              exact ⟨⟨_, rfl⟩, .inl ⟨_, HI12.out.symm, hJw12⟩⟩
            · have HX12 : Jx [((5, S2), true), ((8, S4), true)] U12 := hJx12
              clear hy12 hR12
              gi_wp2_with fail
              go_end0
              exact ⟨⟨_, rfl⟩, .inr ⟨_, ⟨[], by rw [HI12.out]; rfl⟩, HX12⟩⟩
      · have HX9 : Jx [((5, S2), true)] U9 := hJx9
        clear hy9 hR9
        gi_wp2_with fail
        refine bodyPost_ret (results_none rfl _ _ _) rfl ?_
        exact ⟨⟨_, rfl⟩, .inr ⟨_, ⟨((if 0 < gs.length then [((6, S3), true)] else []) ++ (if start = -1 then [] else [((8, S4), true)])), HI9.out.symm⟩, HX9⟩⟩
    · skip
      have HI9 : Hid (IT = [] ++ ((if 0 < gs.length then [((6, S3), true)] else []) ++ (if start = -1 then [] else [((8, S4), true)]))) := by have h := HI1.out; rw [if_neg h2] at h; exact h
      clear HI1
      have t2 : mem = false := by simpa using h2
      subst t2
      have x2_9 : W.cell? ⟨Bn, 2, none⟩ = some (.bool false) := (cell_of_block hxW 2).trans rfl
      gi_wp2_with fail
      refine ⟨trivial, ?_⟩
      gi_wp2_with fail
      refine ⟨fun _ h => (by cases h), ?_⟩
      by_cases h3 : 0 < gs.length
      · skip
        have HI13 : Hid (IT = [((6, S3), true)] ++ (if start = -1 then [] else [((8, S4), true)])) := by have h := HI9.out; rw [if_pos h3] at h; exact h
        clear HI9
        have t3 : (0 : Int) < gs.length := by omega
        have x1_13 : W.cell? ⟨Bn, 1, none⟩ = some (.slice ga gs.length gc) := (cell_of_block hxW 1).trans rfl
        gi_wp2_with fail
        refine ⟨trivial, (callsIn_wide.2 (C3.out W HBW.out)).mono ?_⟩
        rintro e V13 ⟨rfl, hb13⟩
        have HBv13 : Hid (Below w0.heap.size w0 V13) := bel_step HBW.out hb13
        have hxv13 := (hb13.block Bn (lt_of_block hxW)).trans hxW
        have hJv13 : J [] V13 := HJ.out _ _ _ h0 hb13
        obtain ⟨ff13, tt13, aa13, bb13, hy13, hR13⟩ := HY.out [] ((6, S3), true) V13 hJv13 (by simp)
        dsimp only at hy13
        clear x0_1 x2_9 x1_13 hb13 t3
        gi_wp2_with fail
        refine hR13.mono ?_
        rintro e U13 (⟨rfl, hJu13, hk13⟩ | ⟨rfl, hJx13⟩)
        · have HBu13 : Hid (Below w0.heap.size w0 U13) := HBv13.out.trans hk13.1
          have hxu13 := hk13.2 _ hxv13
          have hJw13 : J [((6, S3), true)] U13 := hJu13
          clear hy13 hR13 hJu13 hk13 hxv13 HBv13 hJv13
          by_cases h4 : start = -1
          · skip
            have HI14 : Hid (IT = [((6, S3), true)]) := by have h := HI13.out; rw [if_pos h4] at h; exact h
            clear HI13
            subst h4
            have x5_14 : U13.cell? ⟨Bn, 5, none⟩ = some (.int .i64 (-1)) := (cell_of_block hxu13 5).trans rfl
            gi_wp2_with fail
            go_end0
            exact ⟨⟨_, rfl⟩, .inl ⟨_, HI14.out.symm, hJw13⟩⟩
          · skip
            have HI14 : Hid (IT = [((6, S3), true), ((8, S4), true)]) := by have h := HI13.out; rw [if_neg h4] at h; exact h
            clear HI13
            have t4 : (start == -1) = false := by simpa using h4
            have u4 := HU4.out h4
            have x5_14 : U13.cell? ⟨Bn, 5, none⟩ = some (.int .i64 start) := (cell_of_block hxu13 5).trans rfl
            gi_wp2_with fail
            refine ⟨trivial, (callsIn_wide.2 (C4.out h4 U13)).mono ?_⟩
            rintro e V14 ⟨rfl, hb14⟩
            have HBv14 : Hid (Below w0.heap.size w0 V14) := bel_step HBu13.out hb14
            have hxv14 := (hb14.block Bn (lt_of_block hxu13)).trans hxu13
            have hJv14 : J [((6, S3), true)] V14 := HJ.out _ _ _ hJw13 hb14
            obtain ⟨ff14, tt14, aa14, bb14, hy14, hR14⟩ := HY.out [((6, S3), true)] ((8, S4), true) V14 hJv14 (by simp)
            dsimp only at hy14
            clear x5_14 hb14 t4 u4
            gi_wp2_with fail
            refine hR14.mono ?_
            rintro e U14 (⟨rfl, hJu14, hk14⟩ | ⟨rfl, hJx14⟩)
            · have HBu14 : Hid (Below w0.heap.size w0 U14) := HBv14.out.trans hk14.1
              have hxu14 := hk14.2 _ hxv14
              have hJw14 : J [((6, S3), true), ((8, S4), true)] U14 := hJu14
              clear hy14 hR14 hJu14 hk14 hxv14 HBv14 hJv14
              gi_wp2_with fail
              go_end0
              exact ⟨⟨_, rfl⟩, .inl ⟨_, HI14.out.symm, hJw14⟩⟩
            · have HX14 : Jx [((6, S3), true), ((8, S4), true)] U14 := hJx14
              clear hy14 hR14
              gi_wp2_with fail
              go_end0
              exact ⟨⟨_, rfl⟩, .inr ⟨_, ⟨[], by rw [HI14.out]; rfl⟩, HX14⟩⟩
        · have HX13 : Jx [((6, S3), true)] U13 := hJx13
          clear hy13 hR13
          gi_wp2_with fail
          refine bodyPost_ret (results_none rfl _ _ _) rfl ?_
          exact ⟨⟨_, rfl⟩, .inr ⟨_, ⟨(if start = -1 then [] else [((8, S4), true)]), HI13.out.symm⟩, HX13⟩⟩
      · skip
        have HI13 : Hid (IT = [] ++ (if start = -1 then [] else [((8, S4), true)])) := by have h := HI9.out; rw [if_neg h3] at h; exact h
        clear HI9
        have t3 : (gs.length : Int) ≤ 0 := by omega
        have x1_13 : W.cell? ⟨Bn, 1, none⟩ = some (.slice ga gs.length gc) := (cell_of_block hxW 1).trans rfl
        by_cases h4 : start = -1
        · skip
          have HI15 : Hid (IT = []) := by have h := HI13.out; rw [if_pos h4] at h; exact h
          clear HI13
          subst h4
          have x5_15 : W.cell? ⟨Bn, 5, none⟩ = some (.int .i64 (-1)) := (cell_of_block hxW 5).trans rfl
          gi_wp2_with fail
          refine ⟨trivial, ?_⟩
          gi_wp2_with fail
          first | (refine ⟨fun _ h => (by cases h), ?_⟩; gi_wp2_with fail) | skip
          go_end0
          exact ⟨⟨_, rfl⟩, .inl ⟨_, HI15.out.symm, h0⟩⟩
        · skip
          have HI15 : Hid (IT = [((8, S4), true)]) := by have h := HI13.out; rw [if_neg h4] at h; exact h
          clear HI13
          have t4 : (start == -1) = false := by simpa using h4
          have u4 := HU4.out h4
          have x5_15 : W.cell? ⟨Bn, 5, none⟩ = some (.int .i64 start) := (cell_of_block hxW 5).trans rfl
          gi_wp2_with fail
          refine ⟨trivial, ?_⟩
          gi_wp2_with fail
          first | (refine ⟨fun _ h => (by cases h), ?_⟩; gi_wp2_with fail) | skip
          refine ⟨trivial, (callsIn_wide.2 (C4.out h4 W)).mono ?_⟩
          rintro e V15 ⟨rfl, hb15⟩
          have HBv15 : Hid (Below w0.heap.size w0 V15) := bel_step HBW.out hb15
          have hxv15 := (hb15.block Bn (lt_of_block hxW)).trans hxW
          have hJv15 : J [] V15 := HJ.out _ _ _ h0 hb15
          obtain ⟨ff15, tt15, aa15, bb15, hy15, hR15⟩ := HY.out [] ((8, S4), true) V15 hJv15 (by simp)
          dsimp only at hy15
          clear x0_1 x2_9 x1_13 x5_15 hb15 t4 u4
          gi_wp2_with fail
          refine hR15.mono ?_
          rintro e U15 (⟨rfl, hJu15, hk15⟩ | ⟨rfl, hJx15⟩)
          · have HBu15 : Hid (Below w0.heap.size w0 U15) := HBv15.out.trans hk15.1
            have hxu15 := hk15.2 _ hxv15
            have hJw15 : J [((8, S4), true)] U15 := hJu15
            clear hy15 hR15 hJu15 hk15 hxv15 HBv15 hJv15
            gi_wp2_with fail
            go_end0
            exact ⟨⟨_, rfl⟩, .inl ⟨_, HI15.out.symm, hJw15⟩⟩
          · have HX15 : Jx [((8, S4), true)] U15 := hJx15
            clear hy15 hR15
            gi_wp2_with fail
            go_end0
            exact ⟨⟨_, rfl⟩, .inr ⟨_, ⟨[], by rw [HI15.out]; rfl⟩, HX15⟩⟩

end Go.Proofs.Ytokaljglaholnaa
