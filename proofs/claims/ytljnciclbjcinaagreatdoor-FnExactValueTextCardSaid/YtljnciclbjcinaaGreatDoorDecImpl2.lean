/-
  The walks of the program's functions that read points from UTF-8, and from a text in any code.
-/
import Derived.Test.YtljnciclbjcinaaGreatDoorDecImpl
import Derived.Test.YtljnciclbjcinaaGreatDoorValid
import Derived.Lib.OthersKept
import Derived.Deep.LoopGhost
namespace Go.Proofs.YtljnciclbjcinaaGreatDoor
open Go.ChangeShapes Go.WideShapes Go.ChangeAt Go.RowKit Go.PlainAid

/-- What is told of a text's points, good or not, that come from right bytes. -/
def ToldD (w w' : World) (e : Ending) (code : Int) (s : ByteArray) : Prop :=
  ((∃ L v, dec code s.size s = some L ∧ e = .returned (.tuple #[v, .bool true]) ∧ w'.ownsRow w.heap.size 3 1 v L.length (iv L)) ∨ (gd code s = none ∧ e = .returned (.tuple #[.slice none 0 0, .bool false]))) ∧ Below w.heap.size w w'
/-- A row lies in a block of cells: what leaves such blocks alone leaves the row alone. -/
theorem row_kept {w w' : World} {B : Nat} {e : TypeId} {size n : Nat} {v : Value} {xs : List Value} (hk : ∀ (g : Nat) (A : Array Value) (t : TypeId), w.heap[g]? = some (.cells A t (0, 0)) → w'.heap[g]? = some (.cells A t (0, 0))) (h : w.ownsRow B e size v n xs) : w'.ownsRow B e size v n xs :=
  ⟨h.1, h.2.imp id fun ⟨g, c, A, h1, h2, h3, h4⟩ => ⟨g, c, A, h1, h2, hk g A e h3, h4⟩⟩
theorem iter_not_cells {w : World} {k : Nat} {s : ByteArray} {pos : Nat} (hk : w.heap[k]? = some (.stringIter s pos)) {A : Array Value} {t : TypeId} : w.heap[k]? ≠ some (.cells A t (0, 0)) := by rw [hk]; simp
theorem row_iterAt {w : World} {B : Nat} {e : TypeId} {size n : Nat} {v : Value} {xs : List Value} {k : Nat} {s : ByteArray} {pos : Nat} (h : w.ownsRow B e size v n xs) (hk : w.heap[k]? = some (.stringIter s pos)) (pos' : Nat) : (w.iterAt k s pos').ownsRow B e size v n xs := by
  refine row_kept (fun g A t hg => ?_) h
  have hne : g ≠ k := by rintro rfl; exact iter_not_cells hk hg
  rw [Lib.iterAt_other _ _ _ _ _ hne, hg]
theorem row_ne_iter {w : World} {B : Nat} {e : TypeId} {size n : Nat} {v : Value} {xs : List Value} {k : Nat} {s : ByteArray} {pos : Nat} (h : w.ownsRow B e size v n xs) (hk : w.heap[k]? = some (.stringIter s pos)) : some k ≠ v.ownBlock := by
  rintro hv
  rcases h.2 with ⟨rfl, _⟩ | ⟨g, c, A, rfl, _, hg, _⟩
  · cases hv
  · obtain rfl : k = g := by simpa [Value.ownBlock] using hv
    exact iter_not_cells hk hg

set_option maxRecDepth 100000 in
set_option maxHeartbeats 1600000 in
theorem impl8 (s : ByteArray) (hs : s.size ≤ 1200) (w : World) (hT : UTabs w) :
    Calls Tryz.prog 160 #[.string s] w fun e w' => ToldD w w' e 1 s := by
  obtain ⟨i0, hi, hz0, hz1, hz2⟩ := info_parts Tryz.infoi3
  have HV := validString s w (by omega) hT
  rcases hv : Lib.validD s.data.toList with _ | _
  · rw [hv] at HV
    have HG : Hid (gd 1 s = none) := gd_invalid hv
    clear hv
    go_enter Tryz.func160, Tryz.ntmps160
    go_wp2_with (go_at_call 169; refine HV.mono ?_; rintro e w' ⟨rfl, hb⟩; clear HV)
    go_ret2
    exact ⟨.inr ⟨HG.out, rfl⟩, by assumption⟩
  · rw [hv] at HV
    go_enter Tryz.func160, Tryz.ntmps160
    go_wp2_with fail
    refine HV.mono ?_
    rintro e w1 ⟨rfl, hb1⟩
    clear HV
    have hv0 : Hid (Lib.validD (s.data.toList.drop 0) = true) := by unfold Hid; rw [List.drop_zero]; exact hv
    clear hv
    go_wp2
    go_loopg [4] s.size (fun gf v wx => ∃ (pos f : Nat) (o : List Int), wx.ownsRow w.heap.size 3 1 v o.length (iv o) ∧ wx.heap[w1.heap.size]? = some (.stringIter s pos) ∧ Below w.heap.size w wx ∧ Hid (dec 1 s.size s = (dec 1 f (s.extract pos s.size)).map (o ++ ·)) ∧ s.size - pos ≤ f ∧ s.size ≤ pos + gf ∧ pos ≤ s.size ∧ o.length ≤ pos ∧ Hid (Lib.validD (s.data.toList.drop pos) = true))
    case atStart => exact ⟨0, s.size, [], World.ownsRow_nil _ _ _ _, World.iter_heap w1 s 0, hb1.alloc hb1.size _, by unfold Hid; rw [ext_zero]; simp, by omega, by omega, by omega, by simp, hv0⟩
    case round =>
      obtain ⟨pos, f, o, hown, hit, hbw, hd, hf, hfu, hps, hol, hvv⟩ := hrel
      clear hv0
      by_cases hlt : pos < s.size
      · obtain ⟨g', rfl⟩ : ∃ g', gk = g' + 1 := ⟨gk - 1, by omega⟩
        have hnx : ∀ ty, (Instr.next (.pointer (some ⟨w1.heap.size, 0, none⟩)) true ty).run Tryz.prog wr = _ := fun ty => Lib.run_next_any_at wr w1.heap.size s pos ty hit hlt
        obtain ⟨h1, h2, h3⟩ := valid_one (t := s.extract pos s.size) (by rw [ext_len]; omega) (by rw [drop_list]; exact hvv.out)
        have hle := step_le 1 (s.extract pos s.size) (by rw [ext_len]; omega)
        rw [drop_list, Lib.decodeL_drop] at h1 h2 h3
        rw [step1, h1, ext_len] at hle
        rw [List.drop_drop] at h3
        have HD := dec_next hd.out (by rw [ext_len]; omega) (by rw [ext_len]; omega) (by rw [step1, h1]; exact h2)
        rw [step1, h1] at HD
        simp only at HD hle
        rw [ext_ext] at HD
        have hrl := Lib.rune_le s pos
        obtain ⟨R, hR⟩ : ∃ R, (Utf8.decode s pos).1 = R := ⟨_, rfl⟩
        obtain ⟨K, hK⟩ : ∃ K, (Utf8.decode s pos).2 = K := ⟨_, rfl⟩
        rw [hR] at hnx HD hrl
        rw [hK] at hnx HD hle h2 h3
        have HX : Hid (dec 1 s.size s = (dec 1 (f - 1) (s.extract (pos + K) s.size)).map ((o ++ [(R : Int)]) ++ ·)) := HD
        have HV3 : Hid (Lib.validD (s.data.toList.drop (pos + K)) = true) := h3
        have hit2 := Lib.iterAt_heap wr w1.heap.size s pos (pos + K) hit
        have hbw2 := Lib.below_iterAt hbw (k := w1.heap.size) hb1.size s (pos + K)
        have hown2 := row_iterAt hown hit (pos + K)
        obtain ⟨W, hWd⟩ : ∃ W, wr.iterAt w1.heap.size s (pos + K) = W := ⟨_, rfl⟩
        rw [hWd] at hnx hit2 hbw2 hown2
        have hszW := hbw2.size
        have hitlt := (Array.getElem?_eq_some_iff.1 hit2).1
        have hrl' : (R : Int) ≤ 1114111 := by omega
        have hw : IntKind.i64.wrap (R : Int) = R := by rw [IntKind.wrap_i64]; omega
        have hne := row_ne_iter hown2 hit2
        clear hown hit hbw hd hvv h1 h3 HD hR hK hWd hrl
        go_wp2_with (at_builtin; refine wpList_append_own _ rfl _ _ 90 rfl (w.heap.size) 3 i0 (.int .i64 0) 1 8 Tryz.underlying90 hi hz0 hz1 hz2 rfl (by decide) _ _ _ rfl (hown2.alloc _) ⟨W.heap.size, 0, none⟩ 1 1 (iv [(R : Int)]) rfl rfl (cell_one_new _ _ _) (iv_one _) (by unfold maxLen; omega) (by omega) (by simp; omega) ?_)
        intro v' w2 hown' hgrow' _
        rw [iv_app] at hown'
        have hb2 : Below w.heap.size w w2 := (hbw2.alloc hszW _).grown hgrow' (by simp; omega) (ownsRow_block hown2)
        have hit3 : w2.heap[w1.heap.size]? = some (.stringIter s (pos + K)) := by
          rw [hgrow'.block w1.heap.size (by simp; omega) hne]
          exact (Below.heap_alloc _ _ _ hitlt).trans hit2
        clear hgrow' hown2
        go_wp2
        go_roundg g'
        case rel => exact ⟨pos + K, f - 1, o ++ [(R : Int)], by rw [List.length_append]; exact hown', hit3, hb2, HX, by omega, by omega, by omega, by simp; omega, HV3⟩
        case measure => omega
      · have hnx : ∀ ty, (Instr.next (.pointer (some ⟨w1.heap.size, 0, none⟩)) true ty).run Tryz.prog wr = _ := fun ty => Lib.run_next_end_at wr w1.heap.size s pos ty hit hlt
        have HG : Hid (dec 1 s.size s = some o) := by unfold Hid; rw [hd.out, dec_end 1 _ _ (by rw [ext_len]; omega)]; simp
        clear hd hvv hit
        go_wp2
        go_ret2
        exact ⟨.inl ⟨o, _, HG.out, rfl, hown⟩, hbw⟩

end Go.Proofs.YtljnciclbjcinaaGreatDoor
