/-
  The walks of the two functions that tell sections in bytes.
-/
import Derived.Test.YtnimlkobcginjaaSecGood
import Derived.Test.YtnimlkobcginjaaApp
import Derived.Lib.AppendStr
import Derived.Deep.RegionWith
namespace Go.Proofs.Ytnimlkobcginjaa
open Go.ChangeShapes Go.WideShapes Go.ChangeAt Go.RowKit

/-- The bytes of sections. -/
def secOne (x : Int × ByteArray) : List UInt8 := loB x.1.toNat :: (ul 10 x.2.size ++ x.2.data.toList)
def secBytes (L : List (Int × ByteArray)) : List UInt8 := L.flatMap secOne
theorem secBytes_snoc (L : List (Int × ByteArray)) (k : Nat) (h : k < L.length) : secBytes (L.take (k + 1)) = secBytes (L.take k) ++ secOne L[k] := by
  unfold secBytes; rw [List.take_succ_eq_append_getElem h, List.flatMap_append, List.flatMap_cons, List.flatMap_nil, List.append_nil]
theorem secOk_at (L : List (Int × ByteArray)) : ∀ (p : Int), secOk p L = true → ∀ k (h : k < L.length), p < L[k].1 ∧ L[k].1 ≤ 20 ∧ L[k].2.size ≤ 1000 := by
  induction L with
  | nil => intro p _ k h; simp at h
  | cons x r ih =>
    intro p hp k h
    simp only [secOk, Bool.and_eq_true, decide_eq_true_eq] at hp
    cases k with
    | zero => exact hp.1
    | succ k =>
      have := ih x.1 hp.2 k (by simpa using h)
      simp only [List.getElem_cons_succ]
      exact ⟨by omega, this.2⟩
theorem secGood_at (L : List (Int × ByteArray)) (h : secGood L = true) : L.length ≤ 20 ∧ ∀ k (hk : k < L.length), 0 ≤ L[k].1 ∧ L[k].1 ≤ 20 ∧ L[k].2.size ≤ 1000 := by
  simp only [secGood, Bool.and_eq_true, decide_eq_true_eq] at h
  refine ⟨h.1, fun k hk => ?_⟩
  have := secOk_at L (-1) h.2 k hk
  exact ⟨by omega, this.2⟩
theorem secOne_len (x : Int × ByteArray) (h : x.2.size ≤ 1000) : (secOne x).length ≤ 1011 := by
  have h1 := ul_len 10 x.2.size
  have h2 : x.2.data.toList.length = x.2.size := by simp
  simp only [secOne, List.length_cons, List.length_append]
  omega
theorem ul_small (i : Nat) (h : i < 128) : ul 10 i = [loB i] := ul_end 9 i h
theorem strCells_bv (s : ByteArray) : Lib.strCells s = bv s.data.toList := rfl

/-- What is told of sections. -/
def secRes (L : List (Int × ByteArray)) : Value := if secGood L = true ∧ (secBytes L).length ≤ 4000 then .tuple #[.string ⟨(secBytes L).toArray⟩, .bool true] else .tuple #[.string ⟨#[]⟩, .bool false]
theorem secRes_yes (L : List (Int × ByteArray)) (h : secGood L = true) (h4 : (secBytes L).length ≤ 4000) : secRes L = .tuple #[.string ⟨(secBytes L).toArray⟩, .bool true] := if_pos ⟨h, h4⟩
theorem secRes_no (L : List (Int × ByteArray)) (h : ¬ (secGood L = true ∧ (secBytes L).length ≤ 4000)) : secRes L = .tuple #[.string ⟨#[]⟩, .bool false] := if_neg h

theorem appendUlebs_two (B : Nat) (v : Value) (bs : List UInt8) (nb i n : Nat) (w : World) (hi : i ≤ 20) (hn : n ≤ 1000)
    (hown : w.ownsRow B 5 1 v bs.length (bv bs)) (hnb : w.heap[nb]? = some (.cells #[.int .u64 (i : Int), .int .u64 (n : Int)] 23 (0, 0))) (hB : B ≤ w.heap.size) (hlen : bs.length ≤ 100000) :
    Calls Try.prog 46 #[v, .slice (some ⟨nb, 0, none⟩) 2 2] w fun e w' => ∃ v', e = .returned v' ∧ w'.ownsRow B 5 1 v' (bs ++ loB i :: ul 10 n).length (bv (bs ++ loB i :: ul 10 n)) ∧ KeepO 5 w w' ∧ Below B w w' := by
  have H := appendUlebs_any B v bs nb [i, n] w (by intro m hm; simp at hm; omega) hown hnb hB (by simp; omega)
  have e : ulAll [i, n] = loB i :: ul 10 n := by simp [ulAll, ul_small i (by omega)]
  rw [e] at H
  exact H

set_option maxRecDepth 100000 in
set_option maxHeartbeats 1600000 in
theorem implSecs (a : Option Addr) (b off cap : Nat) (L : List (Int × ByteArray)) (w : World) (ha : Hid (L ≠ [] → a = some ⟨b, off, none⟩ ∧ b < w.heap.size)) (hL : secAt w b off L) (hlen : L.length ≤ 1048576) (hsz : ∀ i (h : i < L.length), L[i].2.size ≤ 1048576) :
    Calls Try.prog 20 #[.slice a L.length cap] w fun e w' => e = .returned (secRes L) ∧ Below w.heap.size w w' := by
  obtain ⟨i0, hi, hz0, hz1, hz2⟩ := info_parts Try.info5
  have HG := implGood a b off cap L w ha hL hlen hsz
  by_cases hg : secGood L = true
  · rw [hg] at HG
    obtain ⟨h20, hat⟩ := secGood_at L hg
    go_enter Try.func20, Try.ntmps20
    go_wp2_with (go_at_call 61; refine HG.mono ?_; rintro e w0 ⟨rfl, hb0⟩; clear HG)
    go_loopw [4, 12] (fun v i wr => ∃ (k : Nat) (cs : List UInt8), k ≤ L.length ∧ i = .int .i64 k ∧ Hid (cs = secBytes (L.take k)) ∧ cs.length ≤ 1011 * k ∧ wr.ownsRow w.heap.size 5 1 v cs.length (bv cs) ∧ Below w.heap.size w wr) (fun _ i _ => L.length - (intOf i).toNat)
    case atStart => exact ⟨0, [], by omega, rfl, by simp [Hid, secBytes], by simp, World.ownsRow_nil _ _ _ _, hb0⟩
    case round =>
      obtain ⟨k, cs, hk, rfl, hcs, hcl, hown, hnx⟩ := hrel
      have hsz' := hnx.size
      by_cases hlt : k < L.length
      · obtain ⟨rfl, hb⟩ := ha.out (fun h => by simp [h] at hlt)
        have hc := hL k hlt
        have hak := hat k hlt
        have hsn := secBytes_snoc L k hlt
        obtain ⟨x, hx⟩ : ∃ x, x = L[k] := ⟨_, rfl⟩
        rw [← hx] at hc hak hsn
        obtain ⟨id, s⟩ := x
        clear hx
        simp only at hc hak
        obtain ⟨i, rfl⟩ : ∃ i : Nat, id = i := ⟨id.toNat, by omega⟩
        have HS : Hid (secBytes (L.take (k + 1)) = cs ++ loB i :: ul 10 s.size ++ s.data.toList) := by
          unfold Hid; rw [hsn, hcs.out]; simp [secOne]
        clear hsn
        have hc0 : wr.cell? ⟨b, off + k * 2, none⟩ = some (.int .i64 (i : Int)) := (hnx.cell (by exact hb)).trans hc.1
        have hc1 : wr.cell? ⟨b, off + k * 2 + 1, none⟩ = some (.string s) := (hnx.cell (by exact hb)).trans hc.2
        clear hc
        have hi20 : i ≤ 20 := by omega
        have hs1000 : s.size ≤ 1000 := hak.2.2
        have hul := ul_len 10 s.size
        have hcl5 : cs.length ≤ 100000 := by omega
        go_wp2_with fail
        have hbx : ((wr.alloc (.cells #[.int .i64 (i : Int), .string s] 44)).alloc (.cells #[.int .u64 (i : Int), .int .u64 (s.size : Int)] 23)).heap[wr.heap.size]? = some (.cells #[.int .i64 (i : Int), .string s] 44 (0, 0)) :=
          (Below.heap_alloc _ _ _ (by simp)).trans (heap_alloc_new _ _)
        refine (appendUlebs_two w.heap.size _ cs (wr.heap.size + 1) i s.size _ hi20 hs1000 ((hown.alloc _).alloc _) (by simpa using heap_alloc_new (wr.alloc (.cells #[.int .i64 (i : Int), .string s] 44)) (.cells #[.int .u64 (i : Int), .int .u64 (s.size : Int)] 23)) (by simp; omega) hcl5).mono ?_
        rintro e w2 ⟨v2, rfl, hown2, hkeep, hb2⟩
        have hbx2 := hkeep _ _ _ (by decide) hbx
        have d1 : w2.cell? ⟨wr.heap.size, 1, none⟩ = some (.string s) := by rw [cell_of_block hbx2]; rfl
        have hsz2 := hb2.size
        have hl2 : (cs ++ loB i :: ul 10 s.size).length ≤ 100100 := by simp; omega
        have hB2 : w.heap.size ≤ w2.heap.size := by simp at hsz2; omega
        clear hkeep hbx hbx2
        go_wp2_with (at_builtin; refine Lib.wpList_append_own_string _ rfl _ _ 22 9 rfl w.heap.size 5 i0 Try.underlying22 Try.underlying9 hi hz0 hz1 hz2 _ _ _ rfl hown2 s rfl ?c1 ?c2 ?c3 ?_)
        case c1 => unfold maxLen; omega
        case c2 => omega
        case c3 => exact hB2
        intro v3 w3 hown3 hgrow3 _
        have e3 : (cs ++ loB i :: ul 10 s.size ++ s.data.toList).length = cs.length + ((ul 10 s.size).length + 1) + s.size := by simp; omega
        have hown4 : w3.ownsRow w.heap.size 5 1 v3 (cs ++ loB i :: ul 10 s.size ++ s.data.toList).length (bv (cs ++ loB i :: ul 10 s.size ++ s.data.toList)) := by
          rw [e3]; rw [strCells_bv, bv_app] at hown3; exact hown3
        have hb4 : Below w.heap.size w w3 := ((((hnx.alloc hsz' _).alloc (by simp; omega) _).trans hb2).grown hgrow3 hB2 (ownsRow_block hown2))
        have hl4 : (cs ++ loB i :: ul 10 s.size ++ s.data.toList).length ≤ 1011 * (k + 1) := by rw [e3]; omega
        clear hown3 hgrow3 hown2 e3 hown hl2 d1
        go_wp2
        go_roundw
        case rel => exact ⟨k + 1, _, by omega, by go_num, HS.out.symm, hl4, hown4, hb4⟩
        case measure => simp [intOf]; omega
      · have e : L.take k = L := List.take_of_length_le (by omega)
        have hcs' := hcs.out
        rw [e] at hcs'
        subst hcs'
        clear hcs e
        have hcv := owned_string (P := Try.prog) 22 9 5 Try.underlying22 Try.underlying5 Try.underlying9 hown
        obtain ⟨ao, cp, rfl⟩ := ownsRow_shape hown
        have hle : (secBytes L).length ≤ 100000 := by omega
        by_cases h4 : (secBytes L).length ≤ 4000
        · go_wp2
          go_ret2
          exact ⟨by rw [secRes_yes L hg h4]; rfl, hnx⟩
        · have h4' : (4000 : Int) < (secBytes L).length := by omega
          go_wp2
          go_ret2
          exact ⟨by rw [secRes_no L (fun h => h4 h.2)]; rfl, hnx⟩
  · rw [secRes_no L (fun h => hg h.1)]
    have hg' : secGood L = false := by simpa using hg
    rw [hg'] at HG
    go_enter Try.func20, Try.ntmps20
    go_wp2_with (go_at_call 61; refine HG.mono ?_; rintro e w0 ⟨rfl, hb0⟩; clear HG)
    go_ret2
    exact ⟨rfl, by assumption⟩

end Go.Proofs.Ytnimlkobcginjaa
