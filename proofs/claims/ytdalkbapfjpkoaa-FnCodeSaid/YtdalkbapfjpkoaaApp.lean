/-
  The walk of the function that writes several numbers behind bytes that its caller owns.
-/
import Derived.Test.YtdalkbapfjpkoaaUleb
namespace Go.Proofs.Ytdalkbapfjpkoaa
open Go.ChangeShapes Go.WideShapes Go.ChangeAt Go.RowKit

def ulAll (ns : List Nat) : List UInt8 := ns.flatMap (ul 10)
theorem ulAll_len (ns : List Nat) : (ulAll ns).length ≤ 10 * ns.length := by
  induction ns with
  | nil => simp [ulAll]
  | cons n r ih =>
    have h := ul_len 10 n
    have e : ulAll (n :: r) = ul 10 n ++ ulAll r := by simp [ulAll]
    rw [e, List.length_append, List.length_cons]; omega
theorem ulAll_snoc (ns : List Nat) (k : Nat) (h : k < ns.length) : ulAll (ns.take (k + 1)) = ulAll (ns.take k) ++ ul 10 ns[k] := by
  unfold ulAll; rw [List.take_succ_eq_append_getElem h, List.flatMap_append, List.flatMap_cons, List.flatMap_nil, List.append_nil]
def nums (ns : List Nat) : Array Value := (ns.map fun (n : Nat) => Value.int .u64 (n : Int)).toArray
theorem nums_cell {w : World} {nb : Nat} {ns : List Nat} (h : w.heap[nb]? = some (.cells (nums ns) 40 (0, 0))) (k : Nat) (hk : k < ns.length) : w.cell? ⟨nb, k, none⟩ = some (.int .u64 (ns[k] : Int)) := by
  simp [World.cell?, h, nums, hk]

set_option maxRecDepth 100000 in
set_option maxHeartbeats 1600000 in
theorem appendUlebs_any (B : Nat) (v : Value) (bs : List UInt8) (nb : Nat) (ns : List Nat) (w : World) (hn : Hid (∀ n ∈ ns, n < 18446744073709551616))
    (hown : w.ownsRow B 5 1 v bs.length (bv bs)) (hnb : w.heap[nb]? = some (.cells (nums ns) 40 (0, 0))) (hB : B ≤ w.heap.size) (hlen : bs.length + 10 * ns.length ≤ 1000000000) :
    Calls Try.prog 42 #[v, .slice (some ⟨nb, 0, none⟩) ns.length ns.length] w fun e w' => ∃ v', e = .returned v' ∧ w'.ownsRow B 5 1 v' (bs ++ ulAll ns).length (bv (bs ++ ulAll ns)) ∧ KeepO 5 w w' ∧ Below B w w' := by
  obtain ⟨i0, hi, hz0, hz1, hz2⟩ := info_parts Try.info5
  go_enter Try.func42, Try.ntmps42
  go_wp2
  go_loopw [0, 9] (fun v i wr => ∃ (k : Nat) (cs : List UInt8), k ≤ ns.length ∧ i = .int .i64 k ∧ Hid (cs = bs ++ ulAll (ns.take k)) ∧ wr.ownsRow B 5 1 v cs.length (bv cs) ∧ KeepO 5 w wr ∧ Below B w wr) (fun _ i _ => ns.length - (intOf i).toNat)
  case atStart => exact ⟨0, bs, by omega, rfl, by simp [Hid, ulAll], hown, KeepO.refl _ _, Below.refl _ _⟩
  case round =>
    obtain ⟨k, cs, hk, rfl, hcs, hownr, hnbr, hnx⟩ := hrel
    have hsz := hnx.size
    clear hown
    by_cases hlt : k < ns.length
    · have hcx := nums_cell (hnbr nb _ _ (by decide) hnb) k hlt
      have hcl : cs.length ≤ bs.length + 10 * k := by have := ulAll_len (ns.take k); rw [hcs.out]; simp at *; omega
      have hnk : Hid (ns[k] < 18446744073709551616) := hn.out _ (List.getElem_mem hlt)
      have htk := ulAll_snoc ns k hlt
      have HT : Hid (bs ++ ulAll (ns.take (k + 1)) = cs ++ ul 10 ns[k]) := by unfold Hid; rw [htk, hcs.out]; simp
      clear htk
      obtain ⟨n, hnn⟩ : ∃ n, n = ns[k] := ⟨_, rfl⟩
      rw [← hnn] at hcx hnk HT
      clear hnn
      go_wp2
      go_loopw [0, 6] (fun v a wq => ∃ (f m : Nat) (ds : List UInt8), Hid (m < 128 ^ (f + 1)) ∧ Hid (cs ++ ul 10 n = ds ++ ul (f + 1) m) ∧ ds.length + f ≤ cs.length + 9 ∧ a = .int .u64 m ∧ wq.ownsRow B 5 1 v ds.length (bv ds) ∧ KeepO 5 w wq ∧ Below B w wq) (fun _ a _ => (intOf a).toNat)
      case atStart => exact ⟨9, n, cs, by have := hnk.out; unfold Hid; omega, by unfold Hid; rfl, by omega, rfl, hownr, hnbr, hnx⟩
      case round =>
        obtain ⟨f, m, ds, hm, hds, hdf, rfl, hownq, hnbq, hnq⟩ := hrel
        have hsq := hnq.size
        clear hownr hnbr hnx hcx
        by_cases hml : 128 ≤ m
        · go_wp2_with (at_builtin; refine wpList_append_own _ rfl _ _ 22 rfl B 5 i0 (.int .u8 0) 1 1 Try.underlying22 hi hz0 hz1 hz2 rfl (by decide) _ _ _ rfl (hownq.alloc _) ⟨wr.heap.size, 0, none⟩ 1 1 (bv [hiB m]) rfl rfl ?c1 ?c2 ?c3 ?c4 ?c5 ?_)
          case c1 => rw [hiB_u8 m]; exact cell_one_new _ _ _
          case c2 => exact bv_one _
          case c3 => unfold maxLen; omega
          case c4 => omega
          case c5 => simp; omega
          intro v' w1 hown' hgrow' _
          rw [bv_app] at hown'
          have hb1 : Below B w w1 := (hnq.alloc (by omega) _).grown hgrow' (by simp; omega) (ownsRow_block hownq)
          have hnb1 := hnbq.app hownq hgrow'
          clear hgrow' hownq hnbq
          go_wp2
          go_roundw
          case rel =>
            have h1 := pow_two_up f m hm.out hml
            obtain ⟨g, rfl⟩ : ∃ g, f = g + 1 := ⟨f - 1, by omega⟩
            refine ⟨g, m / 128, ds ++ [hiB m], pow_down _ _ hm.out, ?_, by simp; omega, by go_num, by simpa using hown', hnb1, hb1⟩
            have hk := hds.out
            rw [ul_more _ m hml] at hk
            unfold Hid
            rw [hk]; simp
          case measure => simp [intOf]; omega
        · go_wp2_with (at_builtin; refine wpList_append_own _ rfl _ _ 22 rfl B 5 i0 (.int .u8 0) 1 1 Try.underlying22 hi hz0 hz1 hz2 rfl (by decide) _ _ _ rfl (hownq.alloc _) ⟨wr.heap.size, 0, none⟩ 1 1 (bv [loB m]) rfl rfl ?d1 ?d2 ?d3 ?d4 ?d5 ?_)
          case d1 =>
            have e : (m : Int) = ((loB m).toNat : Int) := by rw [loB_nat m (by omega)]
            rw [e]; exact cell_one_new _ _ _
          case d2 => exact bv_one _
          case d3 => unfold maxLen; omega
          case d4 => omega
          case d5 => simp; omega
          intro v' w1 hown' hgrow' _
          rw [bv_app] at hown'
          have hb1 : Below B w w1 := (hnq.alloc (by omega) _).grown hgrow' (by simp; omega) (ownsRow_block hownq)
          have hnb1 := hnbq.app hownq hgrow'
          clear hgrow' hownq hnbq
          go_wp2
          go_roundw
          case rel =>
            refine ⟨k + 1, ds ++ [loB m], by omega, by go_num, ?_, by simpa using hown', hnb1, hb1⟩
            have hk := hds.out
            rw [ul_end f m (by omega)] at hk
            unfold Hid
            rw [HT.out, hk]
          case measure => simp [intOf]; omega
    · go_wp2
      go_ret
      have e : ns.take k = ns := List.take_of_length_le (by omega)
      have hc := hcs.out
      rw [e] at hc
      exact ⟨_, rfl, by rw [← hc]; exact hownr, hnbr, hnx⟩
end Go.Proofs.Ytdalkbapfjpkoaa
