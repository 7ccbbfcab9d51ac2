/-
  The ends of a body: the specification's side.
-/
import Derived.Test.YtcgnefgdfgikdaaGreatE1
import Derived.Test.YtcgnefgdfgikdaaGreatA1
namespace Go.Proofs.YtcgnefgdfgikdaaGreat
open Go.ChangeShapes Go.WideShapes Go.ChangeAt Go.RowKit

theorem w64n (m : Nat) (h : m ≤ 200) : wrap64 (m : Int) = m := by unfold wrap64; omega
theorem w64k (k : Nat) (h : k ≤ 200) : wrap64 ((k : Int) + 1) = (k : Int) + 1 := by unfold wrap64; omega
theorem eo_none {L : List (Int × Int)} (h : eo L = bodyOf (ops L)) (hf : fw 0 (ops L) [(true, [])] (fun _ => 0) 1 = none) : eo L = none := by
  rcases body_fw (ops L) with ⟨h1, _⟩ | ⟨o', _, h2, _⟩
  · rw [h, h1]
  · rw [hf] at h2; simp at h2
theorem eo_some {L : List (Int × Int)} {o : Nat → Nat} {d : Nat} (h : eo L = bodyOf (ops L)) (hf : fw 0 (ops L) [(true, [])] (fun _ => 0) 1 = some (o, d)) : ∃ E, eo L = some (E, d) ∧ E.length = L.length ∧ ∀ k, k < L.length → some (o k) = E[k]? := by
  rcases body_fw (ops L) with ⟨_, h2⟩ | ⟨o', h1, h2, h3⟩
  · rw [hf] at h2; simp at h2
  · rw [hf] at h2
    simp only [Option.some.injEq, Prod.mk.injEq] at h2
    obtain ⟨rfl, rfl⟩ := h2
    exact ⟨_, by rw [h, h1], by rw [bkE_len]; simp [ops], fun k hk => h3 k (by simpa [ops] using hk)⟩
theorem outRow_nv (o : Nat → Nat) (n : Nat) (E : List Nat) (hl : E.length = n) (h : ∀ k, k < n → some (o k) = E[k]?) : (outRow o n).toList = nv E := by
  apply List.ext_getElem?
  intro i
  by_cases hi : i < n
  · have := h i hi
    simp [outRow, nv, hi, ← this]
  · rw [List.getElem?_eq_none (by simp [outRow]; omega), List.getElem?_eq_none (by rw [nv_len]; omega)]
theorem told_yes {w w' : World} {L : List (Int × Int)} {gout n : Nat} {o : Nat → Nat} {d : Nat} (h : eo L = bodyOf (ops L)) (hf : fw 0 (ops L) [(true, [])] (fun _ => 0) 1 = some (o, d)) (hn : n = L.length) (hn2 : n ≤ 200)
    (hout : w'.heap[gout]? = some (.cells (outRow o n) 3 (0, 0))) (hB : w.heap.size ≤ gout) (hb : Below w.heap.size w w') : Told w L (.returned (.tuple #[.slice (some ⟨gout, 0, none⟩) n n, .int .i64 (d : Int), .bool true])) w' := by
  obtain ⟨E, he, hl, hk⟩ := eo_some h hf
  subst hn
  refine ⟨_, _, by rw [he]; rfl, fun E' D' h2 => ?_, hb⟩
  rw [he] at h2
  simp only [Option.some.injEq, Prod.mk.injEq] at h2
  obtain ⟨rfl, rfl⟩ := h2
  refine ⟨rfl, by rw [nv_len]; omega, Or.inr ⟨gout, L.length, _, by rw [hl], hB, hout, by omega, by unfold maxLen; omega, by simp [outRow], ?_⟩⟩
  rw [hl, Nat.mul_one, List.take_of_length_le (by simp [outRow])]
  exact outRow_nv o _ E hl hk

set_option maxRecDepth 100000 in
set_option maxHeartbeats 6400000 in
theorem specEnds_good (a : Option Addr) (b off cap : Nat) (L : List (Int × Int)) (w : World) (ha : Hid (L ≠ [] → a = some ⟨b, off, none⟩ ∧ b < w.heap.size)) (hL : insAt w b off L) (hn0 : 0 < L.length) (hn2 : L.length ≤ 200) (hg : (allG L && decide (L.length ≤ 200)) = true) :
    Calls Tryz.prog 36 #[.slice a L.length cap] w fun e w' => Told w L e w' := by
  have HG := specAll a b off cap L w ha hL (by omega)
  rw [hg] at HG
  have hres : Hid (eo L = bodyOf (ops L)) := by unfold Hid eo; rw [hg]; rfl
  obtain ⟨rfl, hbw⟩ := ha.out (by intro h; simp [h] at hn0)
  obtain ⟨i0, i0i, i00, i01, i02⟩ := info_parts Tryz.infoI
  obtain ⟨b0, b0i, b00, b01, b02⟩ := info_parts Tryz.infoB
  obtain ⟨s0, s0i, s00, s01, s02⟩ := info_parts Tryz.infoSI
  obtain ⟨n, hn⟩ : ∃ n, L.length = n := ⟨_, rfl⟩
  have hmk : ∀ W : World, (Instr.makeSlice 36 (.int .i64 (n : Int)) (.int .i64 (n : Int))).run Tryz.prog W = .ok (.slice (some ⟨W.heap.size, 0, none⟩) n n) (W.alloc (.cells (outRow (fun _ => 0) n) 3)) := fun W => by
    have h := run_make (P := Tryz.prog) W 36 3 i0 _ Tryz.underlying36 i0i i00 .i64 .i64 (n : Int) (n : Int) (by omega) (by omega) (by rw [i02]; omega) (by omega)
    rw [i01] at h
    rw [← made_i64]
    simpa using h
  have HN : Hid (L.length = n ∧ 0 < n ∧ n ≤ 200) := ⟨hn, by omega, by omega⟩
  have hnz : ((n : Int) == 0) = false := by simp; omega
  rw [hn] at HG ⊢
  clear hn hn0 hn2 hg ha
  go_enter Tryz.func36, Tryz.ntmps36
  go_wp2_with (first | (go_at_call 62; refine HG.mono ?_; rintro e w0 ⟨rfl, hb0⟩; clear HG) | (at_builtin; refine wpList_append_lies _ rfl _ _ 102 rfl w.heap.size 36 s0 (.slice none 0 0) 1 24 Tryz.underlying102 s0i s00 s01 s02 rfl (by decide) _ _ _ rfl (World.ownsRow_nil _ _ _ _) ⟨w0.heap.size + 1 + 1 + 1, 0, none⟩ 1 1 [.slice none 0 0] rfl rfl (one_new _ _ _ _ (by simp)) (by intro u hu; simp at hu; subst hu; rfl) (by decide) (by unfold maxLen; omega) (by omega) (by have := hb0.size; simp; omega) (w0.heap.size + 1 + 1 + 1 + 1) (by simp) ?_; intro gi0 ci0 w3 hown3 hgrow3 hlie3 hlt3))
  have hS0 : Hid (SI w3 w.heap.size w0.heap.size n (fun _ => 0) 1 (fE [(true, [])]) (fX [(true, [])]) (.slice (some ⟨w0.heap.size + 1, 0, none⟩) 1 1) (.slice (some ⟨w0.heap.size + 1 + 1, 0, none⟩) 1 1) (.slice (some ⟨gi0, 0, none⟩) 1 ci0) [.slice none 0 0]) := by
    have hsz := hb0.size
    have hA : SI ((((w0.alloc (.cells (outRow (fun _ => 0) n) 3)).alloc (.cells #[.int .i64 (-1)] 3)).alloc (.cells #[.bool true] 4)).alloc (.cells #[.slice none 0 0] 36)) w.heap.size w0.heap.size n (fun _ => 0) 1 [true] [] (.slice (some ⟨w0.heap.size + 1, 0, none⟩) 1 1) (.slice (some ⟨w0.heap.size + 1 + 1, 0, none⟩) 1 1) (.slice none 0 0) [] := by
      have h1 := own_new (w0.alloc (.cells (outRow (fun _ => 0) n) 3)) w.heap.size 3 (.int .i64 (-1)) (by simp; omega)
      have h2 := own_new ((w0.alloc (.cells (outRow (fun _ => 0) n) 3)).alloc (.cells #[.int .i64 (-1)] 3)) w.heap.size 4 (.bool true) (by simp; omega)
      simp only [World.size_alloc] at h1 h2
      refine ⟨?_, hsz, ⟨_, (h1.alloc _).alloc _⟩, h2.alloc _, World.ownsRow_nil _ _ _ _, fun j v x hv => by simp at hv, by simp [Value.ownBlock]⟩
      exact (((Below.heap_alloc _ _ _ (by simp; omega)).trans (Below.heap_alloc _ _ _ (by simp; omega))).trans (Below.heap_alloc _ _ _ (by simp))).trans (heap_alloc_new _ _)
    have hB := hA.appIns (x := []) hown3 hgrow3 (World.ownsRow_nil _ _ _ _) (fun a ha => by
      by_cases h : a = none
      · exact Or.inl h
      · exact Or.inr h)
    exact hB
  have hb3 : Below w.heap.size w w3 := (bel_alloc (bel_alloc (bel_alloc (bel_alloc hb0 _) _) _) _).grown hgrow3 (by have := hb0.size; simp; omega) (fun k hk => nomatch (show (none : Option Nat) = some k from hk))
  obtain ⟨gout, hgo⟩ : ∃ gout, w0.heap.size = gout := ⟨_, rfl⟩
  rw [hgo] at hS0 ⊢
  clear hown3 hgrow3 hlie3 hlt3 hmk hnz
  go_loopw [6, 7, 8, 9, 33] (fun vd vo ve vi ix wr => ∃ (k : Nat) (S : List (Bool × List Nat)) (o : Nat → Nat) (d : Nat) (vs : List Value), k ≤ n ∧ ix = .int .i64 k ∧ vd = .int .i64 (d : Int) ∧ d ≤ 1000 ∧ Hid (fw k ((ops L).drop k) S o d = fw 0 (ops L) [(true, [])] (fun _ => 0) 1) ∧ Hid (met S k) ∧ Hid (SI wr w.heap.size gout n o S.length (fE S) (fX S) vo ve vi vs) ∧ Below w.heap.size w wr) (fun _ _ _ _ i _ => n - (intOf i).toNat)
  case atStart => exact ⟨0, [(true, [])], fun _ => 0, 1, [.slice none 0 0], by omega, rfl, rfl, by omega, rfl, ⟨by simp, fun x hx => by simp at hx; subst hx; simp⟩, hS0.out, hb3⟩
  case round =>
    clear hS0 hb3 hb0
    obtain ⟨k, S, o, d, vs, hk, rfl, rfl, hd, hfw, hmet, hSI, hnx⟩ := hrel
    have hsz := hnx.size
    by_cases hlt : k < n
    · have hkL : k < L.length := by have := HN.out.1; omega
      have hc := hL k hkL
      have hdrop := fw_op L k hkL
      obtain ⟨x, hx⟩ : ∃ x, x = L[k] := ⟨_, rfl⟩
      rw [← hx] at hc hdrop
      obtain ⟨op, y⟩ := x
      clear hx hkL
      simp only at hc hdrop
      have hc0 : wr.cell? ⟨b, off + k * 2, none⟩ = some (.int .i64 op) := (hnx.cell (by exact hbw)).trans hc.1
      have hc1 : wr.cell? ⟨b, off + k * 2 + 1, none⟩ = some (.int .i64 y) := (hnx.cell (by exact hbw)).trans hc.2
      have hfw2 := hfw.out
      rw [hdrop] at hfw2
      have HF : Hid (fw k (op :: (ops L).drop (k + 1)) S o d = fw 0 (ops L) [(true, [])] (fun _ => 0) 1) := hfw2
      clear hc hdrop hfw hfw2
      cases S with
      | nil =>
        have he : Hid (eo L = none) := eo_none hres.out (by rw [← HF.out]; rfl)
        obtain ⟨xs, hop⟩ := hSI.out.op
        obtain ⟨ao, co, rfl⟩ := ownsRow_shape hop
        clear hop hSI HF hmet
        go_wp2
        refine bodyPost_ret (v := .tuple #[.slice none 0 0, .int .i64 0, .bool false]) (by simp [results, Tryz.results36, go_sem]) rfl (told_no he.out (bel_alloc hnx _))
      | cons F T =>
        obtain ⟨f, ins⟩ := F
        obtain ⟨m, hm⟩ : ∃ m, T.length = m := ⟨_, rfl⟩
        have h1 := hSI.out
        rw [fE_cons, fX_cons, List.length_cons, hm] at h1
        clear hSI
        have hEl : (fE T ++ [f]).length = m + 1 := by rw [List.length_append, fE_len]; simp [hm]
        have hXl : (fX T ++ [ins]).length = m + 1 := by rw [List.length_append, fX_len]; simp [hm]
        have hEt : (fE T).length = m := by rw [fE_len]; exact hm
        have hXt : (fX T).length = m := by rw [fX_len]; exact hm
        have hmb := hmet.out
        have hm2 : m ≤ k := by have := hmb.1; simp only [List.length_cons] at this; omega
        have hil : ins.length ≤ k := (hmb.2 (f, ins) (List.mem_cons_self ..)).1
        have hilt : Hid (∀ j ∈ ins, j < k) := (hmb.2 (f, ins) (List.mem_cons_self ..)).2
        clear hmb
        have HB : Hid (m ≤ 200 ∧ ins.length ≤ 200 ∧ k ≤ 200 ∧ k < n ∧ n ≤ 200) := ⟨by have := HN.out; omega, by have := HN.out; omega, by have := HN.out; omega, hlt, HN.out.2.2⟩
        obtain ⟨xs0, hop⟩ := h1.op
        have hel := h1.el
        rw [hEl] at hel
        have hinr := h1.ins
        rw [hXl] at hinr
        obtain ⟨go_, co, rfl, hco⟩ := own_pos hop (by omega)
        obtain ⟨ge, ce, rfl, hce⟩ := own_pos hel (by omega)
        obtain ⟨gi, ci, rfl, hci⟩ := own_pos hinr (by omega)
        obtain ⟨us, v, rfl⟩ : ∃ us v, vs = us ++ [v] := by
          have hl := h1.vsLen
          have hne : vs ≠ [] := by intro h; rw [h, hXl] at hl; simp at hl
          exact ⟨vs.dropLast, vs.getLast hne, (List.dropLast_concat_getLast hne).symm⟩
        have hul : us.length = m := by have := h1.vsLen; rw [hXl] at this; simp at this; omega
        have hrow : wr.ownsRow w.heap.size 3 1 v ins.length (nv ins) := h1.each m v ins (by rw [← hul]; simp) (by rw [← hXt]; simp)
        obtain ⟨xb, hxb⟩ : ∃ xb, wr.heap.size = xb := ⟨_, rfl⟩
        obtain ⟨W1, hW1⟩ : ∃ W1, wr.alloc (.cells #[.int .i64 op, .int .i64 y] 41) = W1 := ⟨_, rfl⟩
        have hb1 : Below wr.heap.size wr W1 := by rw [← hW1]; exact (Below.refl _ _).alloc (Nat.le_refl _) _
        have h2 := h1.keep hb1
        have hW1s : W1.heap.size = xb + 1 := by rw [← hW1, ← hxb]; simp
        have hxblk : W1.heap[xb]? = some (.cells #[.int .i64 op, .int .i64 y] 41 (0, 0)) := by rw [← hW1, ← hxb]; exact heap_alloc_new _ _
        have hbel1 : Hid (Below w.heap.size w W1) := below2 hnx hb1
        have cx1 : W1.cell? ⟨xb, 0, none⟩ = some (.int .i64 op) := by rw [cell_of_block hxblk]; rfl
        have hrow1 : W1.ownsRow w.heap.size 3 1 v ins.length (nv ins) := owns_below hrow hb1
        have hinr1 := owns_below hinr hb1
        have hel1 := owns_below hel hb1
        have hop1 := owns_below hop hb1
        have H2 : Hid (SI W1 w.heap.size gout n o (m + 1) (fE T ++ [f]) (fX T ++ [ins]) (.slice (some ⟨go_, 0, none⟩) (m + 1) co) (.slice (some ⟨ge, 0, none⟩) (m + 1) ce) (.slice (some ⟨gi, 0, none⟩) (m + 1) ci) (us ++ [v])) := h2
        have HROW1 : Hid (W1.ownsRow w.heap.size 3 1 v ins.length (nv ins)) := hrow1
        have HINS1 : Hid (W1.ownsRow w.heap.size 36 1 (.slice (some ⟨gi, 0, none⟩) (m + 1) ci) (m + 1) (us ++ [v])) := hinr1
        have HEL1 : Hid (W1.ownsRow w.heap.size 4 1 (.slice (some ⟨ge, 0, none⟩) (m + 1) ce) (m + 1) ((fE T ++ [f]).map Value.bool)) := hel1
        have HOP1 : Hid (W1.ownsRow w.heap.size 3 1 (.slice (some ⟨go_, 0, none⟩) (m + 1) co) (m + 1) xs0) := hop1
        have HXB : Hid (W1.heap[xb]? = some (.cells #[.int .i64 op, .int .i64 y] 41 (0, 0))) := hxblk
        have HLN : Hid ((fE T).length = m ∧ (fX T).length = m ∧ us.length = m ∧ T.length = m) := ⟨hEt, hXt, hul, hm⟩
        have hcv := own_cell hinr1 (j := m) (u := v) (by rw [← hul]; simp)
        have cv1 := hcv.1
        have HCI : Hid (m ≤ co ∧ m ≤ ce ∧ m ≤ ci) := ⟨by omega, by omega, by omega⟩
        clear h1 h2 hrow hrow1 hinr hinr1 hel hel1 hop hop1 hxblk hcv hEl hXl hEt hXt hul hm hb1 hco hce hci hm2 hil
        have hwm : wrap64 (m : Int) = m := w64n m HB.out.1
        have hwk : wrap64 ((k : Int) + 1) = (k : Int) + 1 := w64k k HB.out.2.2.1
        by_cases n2 : op = 2
        · subst n2
          have HF2 : Hid (fw (k + 1) ((ops L).drop (k + 1)) ((true, [k]) :: (f, ins) :: T) o (max d (T.length + 2)) = fw 0 (ops L) [(true, [])] (fun _ => 0) 1) := by
            have h := HF.out
            have hno : opens 2 = true := rfl
            simp only [fw, hno, if_true] at h
            exact h
          clear HF
          go_wp2_with (at_builtin; refine wpList_append_lies _ rfl _ _ 36 rfl w.heap.size 3 i0 (.int .i64 0) 1 8 Tryz.underlying36 i0i i00 i01 i02 rfl (by decide) _ _ _ rfl ((HOP1.out).alloc _) ⟨xb + 1, 0, none⟩ 1 1 [.int .i64 (k : Int)] rfl rfl (one_new _ _ _ _ (by clear hwm hwk; first | omega | (simp; omega))) (by intro u hu; simp at hu; subst hu; rfl) (by decide) (by clear hwm hwk; have := HB.out; unfold maxLen; omega) (by clear hwm hwk; have := HB.out; omega) (by clear hwm hwk; have := (hbel1.out).size; simp; omega) (xb + 1 + 1) (by clear hwm hwk; simp; omega) ?_)
          intro g c w3 hown3 hgrow3 hlie3 hlt3
          have H3 := (H2.out.keep ((Below.refl _ _).alloc (Nat.le_refl _) (.cells #[.int .i64 (k : Int)] 3))).appOpen hown3 hgrow3 (by clear hwm hwk; rcases hlie3 with h | h; exact Or.inl h; right; simp; omega)
          have HX3 : Hid (w3.heap[xb]? = some (.cells #[.int .i64 2, .int .i64 y] 41 (0, 0))) := grown_other ((HOP1.out).alloc _) hgrow3 ((Below.heap_alloc _ _ _ (lt_of_block HXB.out)).trans HXB.out) (by decide)
          have cx3 : w3.cell? ⟨xb, 0, none⟩ = some (.int .i64 2) := by rw [cell_of_block HX3.out]; rfl
          have hb3 : Hid (Below w.heap.size w w3) := (bel_alloc hbel1.out _).grown hgrow3 (by clear hwm hwk; have := hbel1.out.size; simp; omega) (ownsRow_block HOP1.out)
          have HEL3 : Hid (w3.ownsRow w.heap.size 4 1 (.slice (some ⟨ge, 0, none⟩) (m + 1) ce) (m + 1) ((fE T ++ [f]).map Value.bool)) := by
            have h := H3.el
            rw [List.length_append, HLN.out.1] at h
            exact h
          have HS3 : Hid (SI w3 w.heap.size gout n o (m + 1 + 1) (fE T ++ [f]) (fX T ++ [ins]) (.slice (some ⟨g, 0, none⟩) (m + 1 + 1) c) (.slice (some ⟨ge, 0, none⟩) (m + 1) ce) (.slice (some ⟨gi, 0, none⟩) (m + 1) ci) (us ++ [v])) := H3
          obtain ⟨z3, hz3⟩ : ∃ z3, w3.heap.size = z3 := ⟨_, rfl⟩
          clear hown3 hgrow3 hlie3 H3 H2 HROW1 HINS1 HEL1 HOP1 HXB hbel1 cx1 cv1 hlt3
          go_wp2_with (at_builtin; refine wpList_append_lies _ rfl _ _ 101 rfl w.heap.size 4 b0 (.bool false) 1 1 Tryz.underlying101 b0i b00 b01 b02 rfl (by decide) _ _ _ rfl ((HEL3.out).alloc _) ⟨z3, 0, none⟩ 1 1 [.bool true] rfl rfl (one_new _ _ _ _ (by clear hwm hwk; first | omega | (simp; omega))) (by intro u hu; simp at hu; subst hu; rfl) (by decide) (by clear hwm hwk; have := HB.out; unfold maxLen; omega) (by clear hwm hwk; have := HB.out; omega) (by clear hwm hwk; have := (hb3.out).size; simp; omega) (z3 + 1) (by clear hwm hwk; simp; omega) ?_)
          intro g4 c4 w4 hown4 hgrow4 hlie4 hlt4
          have HS4 : Hid (SI w4 w.heap.size gout n o (m + 1 + 1) (fE T ++ [f] ++ [true]) (fX T ++ [ins]) (.slice (some ⟨g, 0, none⟩) (m + 1 + 1) c) (.slice (some ⟨g4, 0, none⟩) (m + 1 + 1) c4) (.slice (some ⟨gi, 0, none⟩) (m + 1) ci) (us ++ [v])) := by
            have hl : (fE T ++ [f]).length = m + 1 := by rw [List.length_append, HLN.out.1]; rfl
            have h := (HS3.out.keep ((Below.refl _ _).alloc (Nat.le_refl _) (.cells #[.bool true] 4))).appElse (g := g4) (cap := c4) (b := true) (by rw [hl]; simpa using hown4) hgrow4
            rw [hl] at h
            exact h
          have hb4 : Hid (Below w.heap.size w w4) := (bel_alloc hb3.out _).grown hgrow4 (by clear hwm hwk; have := hb3.out.size; simp; omega) (ownsRow_block HEL3.out)
          have HIN4 : Hid (w4.ownsRow w.heap.size 36 1 (.slice (some ⟨gi, 0, none⟩) (m + 1) ci) (m + 1) (us ++ [v])) := by
            have h := HS4.out.ins
            rw [List.length_append, HLN.out.2.1] at h
            exact h
          obtain ⟨z4, hz4⟩ : ∃ z4, w4.heap.size = z4 := ⟨_, rfl⟩
          clear hown4 hgrow4 hlie4 hlt4 HS3 HEL3 HX3 cx3 hb3 hz3
          go_wp2_with (at_builtin; refine wpList_append_lies _ rfl _ _ 102 rfl w.heap.size 36 s0 (.slice none 0 0) 1 24 Tryz.underlying102 s0i s00 s01 s02 rfl (by decide) _ _ _ rfl (((HIN4.out).alloc _).alloc _) ⟨z4 + 1, 0, none⟩ 1 1 [.slice (some ⟨z4, 0, none⟩) 1 1] rfl rfl (one_new _ _ _ _ (by clear hwm hwk; first | omega | (simp; omega))) (by intro u hu; simp at hu; subst hu; rfl) (by decide) (by clear hwm hwk; have := HB.out; unfold maxLen; omega) (by clear hwm hwk; have := HB.out; omega) (by clear hwm hwk; have := (hb4.out).size; simp; omega) (z4 + 1 + 1) (by clear hwm hwk; simp; omega) ?_)
          intro g5 c5 w5 hown5 hgrow5 hlie5 hlt5
          have HS5 : Hid (SI w5 w.heap.size gout n o (m + 1 + 1) (fE T ++ [f] ++ [true]) (fX T ++ [ins] ++ [[k]]) (.slice (some ⟨g, 0, none⟩) (m + 1 + 1) c) (.slice (some ⟨g4, 0, none⟩) (m + 1 + 1) c4) (.slice (some ⟨g5, 0, none⟩) (m + 1 + 1) c5) (us ++ [v] ++ [.slice (some ⟨z4, 0, none⟩) 1 1])) := by
            have hl : (fX T ++ [ins]).length = m + 1 := by rw [List.length_append, HLN.out.2.1]; rfl
            have hnew := own_new w4 w.heap.size 3 (.int .i64 (k : Int)) hb4.out.size
            rw [hz4] at hnew
            have h := ((HS4.out.keep ((Below.refl _ _).alloc (Nat.le_refl _) (.cells #[.int .i64 (k : Int)] 3))).keep ((Below.refl _ _).alloc (Nat.le_refl _) (.cells #[.slice (some ⟨z4, 0, none⟩) 1 1] 36))).appIns (g := g5) (cap := c5) (x := [k]) (by rw [hl]; simpa using hown5) hgrow5 (hnew.alloc _) (fun a ha => Or.inr (by have h9 := HS4.out.lt a ha; rw [hz4] at h9; exact h9))
            rw [hl] at h
            exact h
          have hb5 : Below w.heap.size w w5 := (bel_alloc (bel_alloc hb4.out _) _).grown hgrow5 (by clear hwm hwk; have := hb4.out.size; simp; omega) (ownsRow_block HIN4.out)
          clear hown5 hgrow5 hlie5 hlt5 HS4 HIN4 hb4 hz4
          have HM : Hid (T.length = m) := HLN.out.2.2.2
          by_cases hdd : (d : Int) < (m : Int) + 1 + 1
          · have hdx : Hid (max d (T.length + 2) = m + 1 + 1) := by clear hwm hwk; unfold Hid; rw [HM.out]; omega
            go_wp2
            go_roundw
            case rel =>
              try rw [hwk]
              clear hwm hwk
              have hbb := HB.out
              refine ⟨k + 1, (true, [k]) :: (f, ins) :: T, o, m + 1 + 1, us ++ [v] ++ [.slice (some ⟨z4, 0, none⟩) 1 1], by omega, by go_num, by go_num, by omega, by have h := HF2.out; rw [hdx.out] at h; exact h, met_push hmet.out, ?_, hb5⟩
              unfold Hid
              rw [fE_cons, fX_cons, fE_cons, fX_cons, List.length_cons, List.length_cons, HM.out]
              exact HS5.out
            case measure => (try rw [hwk]); clear hwm hwk; have hq := HB.out; simp [intOf]; omega
          · have hdx : Hid (max d (T.length + 2) = d) := by clear hwm hwk; unfold Hid; rw [HM.out]; omega
            go_wp2
            go_roundw
            case rel =>
              try rw [hwk]
              clear hwm hwk
              have hbb := HB.out
              refine ⟨k + 1, (true, [k]) :: (f, ins) :: T, o, d, us ++ [v] ++ [.slice (some ⟨z4, 0, none⟩) 1 1], by omega, by go_num, rfl, hd, by have h := HF2.out; rw [hdx.out] at h; exact h, met_push hmet.out, ?_, hb5⟩
              unfold Hid
              rw [fE_cons, fX_cons, fE_cons, fX_cons, List.length_cons, List.length_cons, HM.out]
              exact HS5.out
            case measure => (try rw [hwk]); clear hwm hwk; have hq := HB.out; simp [intOf]; omega
        · by_cases n3 : op = 3
          · subst n3
            have HF2 : Hid (fw (k + 1) ((ops L).drop (k + 1)) ((true, [k]) :: (f, ins) :: T) o (max d (T.length + 2)) = fw 0 (ops L) [(true, [])] (fun _ => 0) 1) := by
              have h := HF.out
              have hno : opens 3 = true := rfl
              simp only [fw, hno, if_true] at h
              exact h
            clear HF
            go_wp2_with (at_builtin; refine wpList_append_lies _ rfl _ _ 36 rfl w.heap.size 3 i0 (.int .i64 0) 1 8 Tryz.underlying36 i0i i00 i01 i02 rfl (by decide) _ _ _ rfl ((HOP1.out).alloc _) ⟨xb + 1, 0, none⟩ 1 1 [.int .i64 (k : Int)] rfl rfl (one_new _ _ _ _ (by clear hwm hwk; first | omega | (simp; omega))) (by intro u hu; simp at hu; subst hu; rfl) (by decide) (by clear hwm hwk; have := HB.out; unfold maxLen; omega) (by clear hwm hwk; have := HB.out; omega) (by clear hwm hwk; have := (hbel1.out).size; simp; omega) (xb + 1 + 1) (by clear hwm hwk; simp; omega) ?_)
            intro g c w3 hown3 hgrow3 hlie3 hlt3
            have H3 := (H2.out.keep ((Below.refl _ _).alloc (Nat.le_refl _) (.cells #[.int .i64 (k : Int)] 3))).appOpen hown3 hgrow3 (by clear hwm hwk; rcases hlie3 with h | h; exact Or.inl h; right; simp; omega)
            have HX3 : Hid (w3.heap[xb]? = some (.cells #[.int .i64 3, .int .i64 y] 41 (0, 0))) := grown_other ((HOP1.out).alloc _) hgrow3 ((Below.heap_alloc _ _ _ (lt_of_block HXB.out)).trans HXB.out) (by decide)
            have cx3 : w3.cell? ⟨xb, 0, none⟩ = some (.int .i64 3) := by rw [cell_of_block HX3.out]; rfl
            have hb3 : Hid (Below w.heap.size w w3) := (bel_alloc hbel1.out _).grown hgrow3 (by clear hwm hwk; have := hbel1.out.size; simp; omega) (ownsRow_block HOP1.out)
            have HEL3 : Hid (w3.ownsRow w.heap.size 4 1 (.slice (some ⟨ge, 0, none⟩) (m + 1) ce) (m + 1) ((fE T ++ [f]).map Value.bool)) := by
              have h := H3.el
              rw [List.length_append, HLN.out.1] at h
              exact h
            have HS3 : Hid (SI w3 w.heap.size gout n o (m + 1 + 1) (fE T ++ [f]) (fX T ++ [ins]) (.slice (some ⟨g, 0, none⟩) (m + 1 + 1) c) (.slice (some ⟨ge, 0, none⟩) (m + 1) ce) (.slice (some ⟨gi, 0, none⟩) (m + 1) ci) (us ++ [v])) := H3
            obtain ⟨z3, hz3⟩ : ∃ z3, w3.heap.size = z3 := ⟨_, rfl⟩
            clear hown3 hgrow3 hlie3 H3 H2 HROW1 HINS1 HEL1 HOP1 HXB hbel1 cx1 cv1 hlt3
            go_wp2_with (at_builtin; refine wpList_append_lies _ rfl _ _ 101 rfl w.heap.size 4 b0 (.bool false) 1 1 Tryz.underlying101 b0i b00 b01 b02 rfl (by decide) _ _ _ rfl ((HEL3.out).alloc _) ⟨z3, 0, none⟩ 1 1 [.bool true] rfl rfl (one_new _ _ _ _ (by clear hwm hwk; first | omega | (simp; omega))) (by intro u hu; simp at hu; subst hu; rfl) (by decide) (by clear hwm hwk; have := HB.out; unfold maxLen; omega) (by clear hwm hwk; have := HB.out; omega) (by clear hwm hwk; have := (hb3.out).size; simp; omega) (z3 + 1) (by clear hwm hwk; simp; omega) ?_)
            intro g4 c4 w4 hown4 hgrow4 hlie4 hlt4
            have HS4 : Hid (SI w4 w.heap.size gout n o (m + 1 + 1) (fE T ++ [f] ++ [true]) (fX T ++ [ins]) (.slice (some ⟨g, 0, none⟩) (m + 1 + 1) c) (.slice (some ⟨g4, 0, none⟩) (m + 1 + 1) c4) (.slice (some ⟨gi, 0, none⟩) (m + 1) ci) (us ++ [v])) := by
              have hl : (fE T ++ [f]).length = m + 1 := by rw [List.length_append, HLN.out.1]; rfl
              have h := (HS3.out.keep ((Below.refl _ _).alloc (Nat.le_refl _) (.cells #[.bool true] 4))).appElse (g := g4) (cap := c4) (b := true) (by rw [hl]; simpa using hown4) hgrow4
              rw [hl] at h
              exact h
            have hb4 : Hid (Below w.heap.size w w4) := (bel_alloc hb3.out _).grown hgrow4 (by clear hwm hwk; have := hb3.out.size; simp; omega) (ownsRow_block HEL3.out)
            have HIN4 : Hid (w4.ownsRow w.heap.size 36 1 (.slice (some ⟨gi, 0, none⟩) (m + 1) ci) (m + 1) (us ++ [v])) := by
              have h := HS4.out.ins
              rw [List.length_append, HLN.out.2.1] at h
              exact h
            obtain ⟨z4, hz4⟩ : ∃ z4, w4.heap.size = z4 := ⟨_, rfl⟩
            clear hown4 hgrow4 hlie4 hlt4 HS3 HEL3 HX3 cx3 hb3 hz3
            go_wp2_with (at_builtin; refine wpList_append_lies _ rfl _ _ 102 rfl w.heap.size 36 s0 (.slice none 0 0) 1 24 Tryz.underlying102 s0i s00 s01 s02 rfl (by decide) _ _ _ rfl (((HIN4.out).alloc _).alloc _) ⟨z4 + 1, 0, none⟩ 1 1 [.slice (some ⟨z4, 0, none⟩) 1 1] rfl rfl (one_new _ _ _ _ (by clear hwm hwk; first | omega | (simp; omega))) (by intro u hu; simp at hu; subst hu; rfl) (by decide) (by clear hwm hwk; have := HB.out; unfold maxLen; omega) (by clear hwm hwk; have := HB.out; omega) (by clear hwm hwk; have := (hb4.out).size; simp; omega) (z4 + 1 + 1) (by clear hwm hwk; simp; omega) ?_)
            intro g5 c5 w5 hown5 hgrow5 hlie5 hlt5
            have HS5 : Hid (SI w5 w.heap.size gout n o (m + 1 + 1) (fE T ++ [f] ++ [true]) (fX T ++ [ins] ++ [[k]]) (.slice (some ⟨g, 0, none⟩) (m + 1 + 1) c) (.slice (some ⟨g4, 0, none⟩) (m + 1 + 1) c4) (.slice (some ⟨g5, 0, none⟩) (m + 1 + 1) c5) (us ++ [v] ++ [.slice (some ⟨z4, 0, none⟩) 1 1])) := by
              have hl : (fX T ++ [ins]).length = m + 1 := by rw [List.length_append, HLN.out.2.1]; rfl
              have hnew := own_new w4 w.heap.size 3 (.int .i64 (k : Int)) hb4.out.size
              rw [hz4] at hnew
              have h := ((HS4.out.keep ((Below.refl _ _).alloc (Nat.le_refl _) (.cells #[.int .i64 (k : Int)] 3))).keep ((Below.refl _ _).alloc (Nat.le_refl _) (.cells #[.slice (some ⟨z4, 0, none⟩) 1 1] 36))).appIns (g := g5) (cap := c5) (x := [k]) (by rw [hl]; simpa using hown5) hgrow5 (hnew.alloc _) (fun a ha => Or.inr (by have h9 := HS4.out.lt a ha; rw [hz4] at h9; exact h9))
              rw [hl] at h
              exact h
            have hb5 : Below w.heap.size w w5 := (bel_alloc (bel_alloc hb4.out _) _).grown hgrow5 (by clear hwm hwk; have := hb4.out.size; simp; omega) (ownsRow_block HIN4.out)
            clear hown5 hgrow5 hlie5 hlt5 HS4 HIN4 hb4 hz4
            have HM : Hid (T.length = m) := HLN.out.2.2.2
            by_cases hdd : (d : Int) < (m : Int) + 1 + 1
            · have hdx : Hid (max d (T.length + 2) = m + 1 + 1) := by clear hwm hwk; unfold Hid; rw [HM.out]; omega
              go_wp2
              go_roundw
              case rel =>
                try rw [hwk]
                clear hwm hwk
                have hbb := HB.out
                refine ⟨k + 1, (true, [k]) :: (f, ins) :: T, o, m + 1 + 1, us ++ [v] ++ [.slice (some ⟨z4, 0, none⟩) 1 1], by omega, by go_num, by go_num, by omega, by have h := HF2.out; rw [hdx.out] at h; exact h, met_push hmet.out, ?_, hb5⟩
                unfold Hid
                rw [fE_cons, fX_cons, fE_cons, fX_cons, List.length_cons, List.length_cons, HM.out]
                exact HS5.out
              case measure => (try rw [hwk]); clear hwm hwk; have hq := HB.out; simp [intOf]; omega
            · have hdx : Hid (max d (T.length + 2) = d) := by clear hwm hwk; unfold Hid; rw [HM.out]; omega
              go_wp2
              go_roundw
              case rel =>
                try rw [hwk]
                clear hwm hwk
                have hbb := HB.out
                refine ⟨k + 1, (true, [k]) :: (f, ins) :: T, o, d, us ++ [v] ++ [.slice (some ⟨z4, 0, none⟩) 1 1], by omega, by go_num, rfl, hd, by have h := HF2.out; rw [hdx.out] at h; exact h, met_push hmet.out, ?_, hb5⟩
                unfold Hid
                rw [fE_cons, fX_cons, fE_cons, fX_cons, List.length_cons, List.length_cons, HM.out]
                exact HS5.out
              case measure => (try rw [hwk]); clear hwm hwk; have hq := HB.out; simp [intOf]; omega
          · by_cases n4 : op = 4
            · subst n4
              have HF2 : Hid (fw (k + 1) ((ops L).drop (k + 1)) ((false, [k]) :: (f, ins) :: T) o (max d (T.length + 2)) = fw 0 (ops L) [(true, [])] (fun _ => 0) 1) := by
                have h := HF.out
                have hno : opens 4 = true := rfl
                simp only [fw, hno, if_true] at h
                exact h
              clear HF
              go_wp2_with (at_builtin; refine wpList_append_lies _ rfl _ _ 36 rfl w.heap.size 3 i0 (.int .i64 0) 1 8 Tryz.underlying36 i0i i00 i01 i02 rfl (by decide) _ _ _ rfl ((HOP1.out).alloc _) ⟨xb + 1, 0, none⟩ 1 1 [.int .i64 (k : Int)] rfl rfl (one_new _ _ _ _ (by clear hwm hwk; first | omega | (simp; omega))) (by intro u hu; simp at hu; subst hu; rfl) (by decide) (by clear hwm hwk; have := HB.out; unfold maxLen; omega) (by clear hwm hwk; have := HB.out; omega) (by clear hwm hwk; have := (hbel1.out).size; simp; omega) (xb + 1 + 1) (by clear hwm hwk; simp; omega) ?_)
              intro g c w3 hown3 hgrow3 hlie3 hlt3
              have H3 := (H2.out.keep ((Below.refl _ _).alloc (Nat.le_refl _) (.cells #[.int .i64 (k : Int)] 3))).appOpen hown3 hgrow3 (by clear hwm hwk; rcases hlie3 with h | h; exact Or.inl h; right; simp; omega)
              have HX3 : Hid (w3.heap[xb]? = some (.cells #[.int .i64 4, .int .i64 y] 41 (0, 0))) := grown_other ((HOP1.out).alloc _) hgrow3 ((Below.heap_alloc _ _ _ (lt_of_block HXB.out)).trans HXB.out) (by decide)
              have cx3 : w3.cell? ⟨xb, 0, none⟩ = some (.int .i64 4) := by rw [cell_of_block HX3.out]; rfl
              have hb3 : Hid (Below w.heap.size w w3) := (bel_alloc hbel1.out _).grown hgrow3 (by clear hwm hwk; have := hbel1.out.size; simp; omega) (ownsRow_block HOP1.out)
              have HEL3 : Hid (w3.ownsRow w.heap.size 4 1 (.slice (some ⟨ge, 0, none⟩) (m + 1) ce) (m + 1) ((fE T ++ [f]).map Value.bool)) := by
                have h := H3.el
                rw [List.length_append, HLN.out.1] at h
                exact h
              have HS3 : Hid (SI w3 w.heap.size gout n o (m + 1 + 1) (fE T ++ [f]) (fX T ++ [ins]) (.slice (some ⟨g, 0, none⟩) (m + 1 + 1) c) (.slice (some ⟨ge, 0, none⟩) (m + 1) ce) (.slice (some ⟨gi, 0, none⟩) (m + 1) ci) (us ++ [v])) := H3
              obtain ⟨z3, hz3⟩ : ∃ z3, w3.heap.size = z3 := ⟨_, rfl⟩
              clear hown3 hgrow3 hlie3 H3 H2 HROW1 HINS1 HEL1 HOP1 HXB hbel1 cx1 cv1 hlt3
              go_wp2_with (at_builtin; refine wpList_append_lies _ rfl _ _ 101 rfl w.heap.size 4 b0 (.bool false) 1 1 Tryz.underlying101 b0i b00 b01 b02 rfl (by decide) _ _ _ rfl ((HEL3.out).alloc _) ⟨z3, 0, none⟩ 1 1 [.bool false] rfl rfl (one_new _ _ _ _ (by clear hwm hwk; first | omega | (simp; omega))) (by intro u hu; simp at hu; subst hu; rfl) (by decide) (by clear hwm hwk; have := HB.out; unfold maxLen; omega) (by clear hwm hwk; have := HB.out; omega) (by clear hwm hwk; have := (hb3.out).size; simp; omega) (z3 + 1) (by clear hwm hwk; simp; omega) ?_)
              intro g4 c4 w4 hown4 hgrow4 hlie4 hlt4
              have HS4 : Hid (SI w4 w.heap.size gout n o (m + 1 + 1) (fE T ++ [f] ++ [false]) (fX T ++ [ins]) (.slice (some ⟨g, 0, none⟩) (m + 1 + 1) c) (.slice (some ⟨g4, 0, none⟩) (m + 1 + 1) c4) (.slice (some ⟨gi, 0, none⟩) (m + 1) ci) (us ++ [v])) := by
                have hl : (fE T ++ [f]).length = m + 1 := by rw [List.length_append, HLN.out.1]; rfl
                have h := (HS3.out.keep ((Below.refl _ _).alloc (Nat.le_refl _) (.cells #[.bool false] 4))).appElse (g := g4) (cap := c4) (b := false) (by rw [hl]; simpa using hown4) hgrow4
                rw [hl] at h
                exact h
              have hb4 : Hid (Below w.heap.size w w4) := (bel_alloc hb3.out _).grown hgrow4 (by clear hwm hwk; have := hb3.out.size; simp; omega) (ownsRow_block HEL3.out)
              have HIN4 : Hid (w4.ownsRow w.heap.size 36 1 (.slice (some ⟨gi, 0, none⟩) (m + 1) ci) (m + 1) (us ++ [v])) := by
                have h := HS4.out.ins
                rw [List.length_append, HLN.out.2.1] at h
                exact h
              obtain ⟨z4, hz4⟩ : ∃ z4, w4.heap.size = z4 := ⟨_, rfl⟩
              clear hown4 hgrow4 hlie4 hlt4 HS3 HEL3 HX3 cx3 hb3 hz3
              go_wp2_with (at_builtin; refine wpList_append_lies _ rfl _ _ 102 rfl w.heap.size 36 s0 (.slice none 0 0) 1 24 Tryz.underlying102 s0i s00 s01 s02 rfl (by decide) _ _ _ rfl (((HIN4.out).alloc _).alloc _) ⟨z4 + 1, 0, none⟩ 1 1 [.slice (some ⟨z4, 0, none⟩) 1 1] rfl rfl (one_new _ _ _ _ (by clear hwm hwk; first | omega | (simp; omega))) (by intro u hu; simp at hu; subst hu; rfl) (by decide) (by clear hwm hwk; have := HB.out; unfold maxLen; omega) (by clear hwm hwk; have := HB.out; omega) (by clear hwm hwk; have := (hb4.out).size; simp; omega) (z4 + 1 + 1) (by clear hwm hwk; simp; omega) ?_)
              intro g5 c5 w5 hown5 hgrow5 hlie5 hlt5
              have HS5 : Hid (SI w5 w.heap.size gout n o (m + 1 + 1) (fE T ++ [f] ++ [false]) (fX T ++ [ins] ++ [[k]]) (.slice (some ⟨g, 0, none⟩) (m + 1 + 1) c) (.slice (some ⟨g4, 0, none⟩) (m + 1 + 1) c4) (.slice (some ⟨g5, 0, none⟩) (m + 1 + 1) c5) (us ++ [v] ++ [.slice (some ⟨z4, 0, none⟩) 1 1])) := by
                have hl : (fX T ++ [ins]).length = m + 1 := by rw [List.length_append, HLN.out.2.1]; rfl
                have hnew := own_new w4 w.heap.size 3 (.int .i64 (k : Int)) hb4.out.size
                rw [hz4] at hnew
                have h := ((HS4.out.keep ((Below.refl _ _).alloc (Nat.le_refl _) (.cells #[.int .i64 (k : Int)] 3))).keep ((Below.refl _ _).alloc (Nat.le_refl _) (.cells #[.slice (some ⟨z4, 0, none⟩) 1 1] 36))).appIns (g := g5) (cap := c5) (x := [k]) (by rw [hl]; simpa using hown5) hgrow5 (hnew.alloc _) (fun a ha => Or.inr (by have h9 := HS4.out.lt a ha; rw [hz4] at h9; exact h9))
                rw [hl] at h
                exact h
              have hb5 : Below w.heap.size w w5 := (bel_alloc (bel_alloc hb4.out _) _).grown hgrow5 (by clear hwm hwk; have := hb4.out.size; simp; omega) (ownsRow_block HIN4.out)
              clear hown5 hgrow5 hlie5 hlt5 HS4 HIN4 hb4 hz4
              have HM : Hid (T.length = m) := HLN.out.2.2.2
              by_cases hdd : (d : Int) < (m : Int) + 1 + 1
              · have hdx : Hid (max d (T.length + 2) = m + 1 + 1) := by clear hwm hwk; unfold Hid; rw [HM.out]; omega
                go_wp2
                go_roundw
                case rel =>
                  try rw [hwk]
                  clear hwm hwk
                  have hbb := HB.out
                  refine ⟨k + 1, (false, [k]) :: (f, ins) :: T, o, m + 1 + 1, us ++ [v] ++ [.slice (some ⟨z4, 0, none⟩) 1 1], by omega, by go_num, by go_num, by omega, by have h := HF2.out; rw [hdx.out] at h; exact h, met_push hmet.out, ?_, hb5⟩
                  unfold Hid
                  rw [fE_cons, fX_cons, fE_cons, fX_cons, List.length_cons, List.length_cons, HM.out]
                  exact HS5.out
                case measure => (try rw [hwk]); clear hwm hwk; have hq := HB.out; simp [intOf]; omega
              · have hdx : Hid (max d (T.length + 2) = d) := by clear hwm hwk; unfold Hid; rw [HM.out]; omega
                go_wp2
                go_roundw
                case rel =>
                  try rw [hwk]
                  clear hwm hwk
                  have hbb := HB.out
                  refine ⟨k + 1, (false, [k]) :: (f, ins) :: T, o, d, us ++ [v] ++ [.slice (some ⟨z4, 0, none⟩) 1 1], by omega, by go_num, rfl, hd, by have h := HF2.out; rw [hdx.out] at h; exact h, met_push hmet.out, ?_, hb5⟩
                  unfold Hid
                  rw [fE_cons, fX_cons, fE_cons, fX_cons, List.length_cons, List.length_cons, HM.out]
                  exact HS5.out
                case measure => (try rw [hwk]); clear hwm hwk; have hq := HB.out; simp [intOf]; omega
            · by_cases n5 : op = 5
              · have q2 : (op == 2) = false := by rw [n5]; rfl
                have q3 : (op == 3) = false := by rw [n5]; rfl
                have q4 : (op == 4) = false := by rw [n5]; rfl
                have q5 : (op == 5) = true := by rw [n5]; rfl
                have q11 : (op == 11) = false := by rw [n5]; rfl
                have hce := own_cell HEL1.out (j := m) (u := .bool f) (by have := HLN.out; simp [this.1])
                have ce1 := hce.1
                have fe1 := hce.2
                clear hce
                cases f with
                | true =>
                  have he : Hid (eo L = none) := eo_none hres.out (by rw [← HF.out]; subst n5; simp [fw, opens])
                  clear n2 n3 n4 n5
                  go_wp2
                  refine bodyPost_ret (v := .tuple #[.slice none 0 0, .int .i64 0, .bool false]) (by simp [results, Tryz.results36, go_sem]) rfl (told_no he.out hbel1.out)
                | false =>
                  have HF2 : Hid (fw (k + 1) ((ops L).drop (k + 1)) ((true, ins ++ [k]) :: T) o d = fw 0 (ops L) [(true, [])] (fun _ => 0) 1) := by
                    have h := HF.out
                    subst n5
                    simp only [fw, opens] at h
                    unfold Hid
                    simpa using h
                  obtain ⟨We, hWe⟩ : ∃ We, W1.setCell ⟨ge, m, none⟩ (.bool true) = We := ⟨_, rfl⟩
                  have hgeB : w.heap.size ≤ ge := by obtain ⟨cur, hcu, hB⟩ := own_at HEL1.out (g := ge) rfl; exact hB
                  have HE2 : Hid (SI We w.heap.size gout n o (m + 1) (fE T ++ [true]) (fX T ++ [ins]) (.slice (some ⟨go_, 0, none⟩) (m + 1) co) (.slice (some ⟨ge, 0, none⟩) (m + 1) ce) (.slice (some ⟨gi, 0, none⟩) (m + 1) ci) (us ++ [v])) := by
                    have hln := HLN.out
                    have h := H2.out.setElse (b' := true) (by rw [hln.1])
                    rw [hln.1, hWe] at h
                    exact h
                  have hWes : We.heap.size = xb + 1 := by rw [← hWe, World.size_setCell]; exact hW1s
                  have kE : ∀ {t : TypeId} {q : Nat} {A : Array Value}, 4 ≠ t → W1.heap[q]? = some (.cells A t (0, 0)) → We.heap[q]? = some (.cells A t (0, 0)) := fun {t q A} hne hq => by
                    obtain ⟨cur, hcu, _⟩ := own_at HEL1.out (g := ge) rfl
                    rw [← hWe, heap_setCell_other _ _ _ _ (fun e => apart_types hcu hq hne e.symm)]; exact hq
                  have kR : ∀ {t : TypeId} {s q : Nat} {u : Value} {ys : List Value}, 4 ≠ t → W1.ownsRow w.heap.size t s u q ys → We.ownsRow w.heap.size t s u q ys := fun hne h2 => own_keep h2 fun b hb => by
                    obtain ⟨cur, hcu, _⟩ := own_at h2 hb
                    exact (kE hne hcu).trans hcu.symm
                  have HROWe : Hid (We.ownsRow w.heap.size 3 1 v ins.length (nv ins)) := kR (by decide) HROW1.out
                  have HINSe : Hid (We.ownsRow w.heap.size 36 1 (.slice (some ⟨gi, 0, none⟩) (m + 1) ci) (m + 1) (us ++ [v])) := kR (by decide) HINS1.out
                  have HXBe : Hid (We.heap[xb]? = some (.cells #[.int .i64 op, .int .i64 y] 41 (0, 0))) := kE (by decide) HXB.out
                  have hbele : Hid (Below w.heap.size w We) := by rw [← hWe]; exact hbel1.out.setCell hgeB _
                  have cve := (own_cell HINSe.out (j := m) (u := v) (by have := HLN.out; rw [← this.2.2.1]; simp)).1
                  have cxe : We.cell? ⟨xb, 0, none⟩ = some (.int .i64 op) := by rw [cell_of_block HXBe.out]; rfl
                  clear n2 n3 n4 n5
                  go_wp2_with (at_builtin; refine wpList_append_lies _ rfl _ _ 36 rfl w.heap.size 3 i0 (.int .i64 0) 1 8 Tryz.underlying36 i0i i00 i01 i02 rfl (by decide) _ _ _ rfl ((HROWe.out).alloc _) ⟨xb + 1, 0, none⟩ 1 1 [.int .i64 (k : Int)] rfl rfl (one_new _ _ _ _ (by clear hwm hwk; first | omega | (simp; omega))) (by intro u hu; simp at hu; subst hu; rfl) (by decide) (by clear hwm hwk; have := HB.out; unfold maxLen; omega) (by clear hwm hwk; have := HB.out; omega) (by clear hwm hwk; have := (hbele.out).size; simp; omega) (xb + 1 + 1) (by clear hwm hwk; simp; omega) ?_)
                  intro g c w3 hown3 hgrow3 hlie3 hlt3
                  have HO3 : Hid (w3.ownsRow w.heap.size 3 1 (.slice (some ⟨g, 0, none⟩) (ins.length + 1) c) (ins.length + 1) (nv ins ++ [.int .i64 (k : Int)])) := hown3
                  have HG3 : Hid ((We.alloc (.cells #[.int .i64 (k : Int)] 3)).grownBy w3 v.ownBlock) := hgrow3
                  have HL3 : Hid (v.ownBlock = some g ∨ g = (We.alloc (.cells #[.int .i64 (k : Int)] 3)).heap.size) := by (clear hwm hwk; unfold Hid; rcases hlie3 with h | h; exact Or.inl h; right; simp; omega)
                  have hins3 : w3.ownsRow w.heap.size 36 1 (.slice (some ⟨gi, 0, none⟩) (m + 1) ci) (m + 1) (us ++ [v]) := own_keep ((HINSe.out).alloc _) (fun q hq => by obtain ⟨cur, hcu, _⟩ := own_at ((HINSe.out).alloc (.cells #[.int .i64 (k : Int)] 3)) hq; exact (grown_other ((HROWe.out).alloc _) hgrow3 hcu (by decide)).trans hcu.symm)
                  have hcv3 := own_cell hins3 (j := m) (u := v) (by have := HLN.out; rw [← this.2.2.1]; simp)
                  have cv3 := hcv3.1
                  have fv3 := hcv3.2
                  have HX3 : Hid (w3.heap[xb]? = some (.cells #[.int .i64 op, .int .i64 y] 41 (0, 0))) := grown_other ((HROWe.out).alloc _) hgrow3 ((Below.heap_alloc _ _ _ (lt_of_block (HXBe.out))).trans (HXBe.out)) (by decide)
                  have hxi : xb ≠ gi := fun e => by (obtain ⟨cur, hcu, _⟩ := own_at hins3 (g := gi) rfl; exact apart_types HX3.out hcu (by decide) e)
                  have cx4 : (w3.setCell ⟨gi, m, none⟩ (.slice (some ⟨g, 0, none⟩) (ins.length + 1) c)).cell? ⟨xb, 0, none⟩ = some (.int .i64 op) := by (rw [cell_of_block ((heap_setCell_other _ _ _ _ hxi).trans HX3.out)]; rfl)
                  have hb3 : Hid (Below w.heap.size w w3) := (bel_alloc (hbele.out) _).grown hgrow3 (by clear hwm hwk; have := (hbele.out).size; simp; omega) (ownsRow_block (HROWe.out))
                  clear hown3 hgrow3 hlie3 hins3 hcv3
                  go_wp2
                  go_roundw
                  case rel =>
                    try rw [hwk]
                    clear hwm hwk
                    have hln := HLN.out
                    refine ⟨k + 1, (true, ins ++ [k]) :: T, o, d, us ++ [.slice (some ⟨g, 0, none⟩) (ins.length + 1) c], by omega, by go_num, rfl, hd, HF2.out, met_more hmet.out, ?_, ?_⟩
                    · have h := (HE2.out.keep ((Below.refl _ _).alloc (Nat.le_refl _) (.cells #[.int .i64 (k : Int)] 3))).setIns (by rw [hln.2.1]) HO3.out HG3.out HL3.out
                      rw [hln.2.1] at h
                      unfold Hid
                      rw [fE_cons, fX_cons, List.length_cons, hln.2.2.2]
                      exact h
                    · exact hb3.out.setCell (by obtain ⟨cur, hcu, hB⟩ := own_at HINS1.out (g := gi) rfl; exact hB) _
                  case measure => (try rw [hwk]); clear hwm hwk; have hq := HB.out; simp [intOf]; omega
              · by_cases n11 : op = 11
                · have q2 : (op == 2) = false := by rw [n11]; rfl
                  have q3 : (op == 3) = false := by rw [n11]; rfl
                  have q4 : (op == 4) = false := by rw [n11]; rfl
                  have q5 : (op == 5) = false := by rw [n11]; rfl
                  have q11 : (op == 11) = true := by rw [n11]; rfl
                  have HF2 : Hid (fw (k + 1) ((ops L).drop (k + 1)) T (fun q => if q ∈ ins ++ [k] then k else o q) d = fw 0 (ops L) [(true, [])] (fun _ => 0) 1) := by
                    have h := HF.out
                    subst n11
                    have hno : opens 11 = false := rfl
                    simp only [fw, hno, Bool.false_eq_true, if_false, if_true] at h
                    rw [if_neg (fun hx => absurd hx.1 (by decide))] at h
                    exact h
                  clear n2 n3 n4 n5 n11 HF
                  go_wp2_with (at_builtin; refine wpList_append_lies _ rfl _ _ 36 rfl w.heap.size 3 i0 (.int .i64 0) 1 8 Tryz.underlying36 i0i i00 i01 i02 rfl (by decide) _ _ _ rfl ((HROW1.out).alloc _) ⟨xb + 1, 0, none⟩ 1 1 [.int .i64 (k : Int)] rfl rfl (one_new _ _ _ _ (by clear hwm hwk; first | omega | (simp; omega))) (by intro u hu; simp at hu; subst hu; rfl) (by decide) (by clear hwm hwk; have := HB.out; unfold maxLen; omega) (by clear hwm hwk; have := HB.out; omega) (by clear hwm hwk; have := (hbel1.out).size; simp; omega) (xb + 1 + 1) (by clear hwm hwk; simp; omega) ?_)
                  intro g c w3 hown3 hgrow3 hlie3 hlt3
                  have HO3 : Hid (w3.ownsRow w.heap.size 3 1 (.slice (some ⟨g, 0, none⟩) (ins.length + 1) c) (ins.length + 1) (nv ins ++ [.int .i64 (k : Int)])) := hown3
                  have HG3 : Hid ((W1.alloc (.cells #[.int .i64 (k : Int)] 3)).grownBy w3 v.ownBlock) := hgrow3
                  have HL3 : Hid (v.ownBlock = some g ∨ g = (W1.alloc (.cells #[.int .i64 (k : Int)] 3)).heap.size) := by (clear hwm hwk; unfold Hid; rcases hlie3 with h | h; exact Or.inl h; right; simp; omega)
                  have hins3 : w3.ownsRow w.heap.size 36 1 (.slice (some ⟨gi, 0, none⟩) (m + 1) ci) (m + 1) (us ++ [v]) := own_keep ((HINS1.out).alloc _) (fun q hq => by obtain ⟨cur, hcu, _⟩ := own_at ((HINS1.out).alloc (.cells #[.int .i64 (k : Int)] 3)) hq; exact (grown_other ((HROW1.out).alloc _) hgrow3 hcu (by decide)).trans hcu.symm)
                  have hcv3 := own_cell hins3 (j := m) (u := v) (by have := HLN.out; rw [← this.2.2.1]; simp)
                  have cv3 := hcv3.1
                  have fv3 := hcv3.2
                  have HX3 : Hid (w3.heap[xb]? = some (.cells #[.int .i64 op, .int .i64 y] 41 (0, 0))) := grown_other ((HROW1.out).alloc _) hgrow3 ((Below.heap_alloc _ _ _ (lt_of_block (HXB.out))).trans (HXB.out)) (by decide)
                  have hxi : xb ≠ gi := fun e => by (obtain ⟨cur, hcu, _⟩ := own_at hins3 (g := gi) rfl; exact apart_types HX3.out hcu (by decide) e)
                  have cx4 : (w3.setCell ⟨gi, m, none⟩ (.slice (some ⟨g, 0, none⟩) (ins.length + 1) c)).cell? ⟨xb, 0, none⟩ = some (.int .i64 op) := by (rw [cell_of_block ((heap_setCell_other _ _ _ _ hxi).trans HX3.out)]; rfl)
                  have cv4 : (w3.setCell ⟨gi, m, none⟩ (.slice (some ⟨g, 0, none⟩) (ins.length + 1) c)).cell? ⟨gi, m, none⟩ = some (.slice (some ⟨g, 0, none⟩) (ins.length + 1) c) := by simp [go_sem, cv3]
                  have hb3 : Hid (Below w.heap.size w w3) := (bel_alloc (hbel1.out) _).grown hgrow3 (by clear hwm hwk; have := (hbel1.out).size; simp; omega) (ownsRow_block (HROW1.out))
                  clear hown3 hgrow3 hlie3 hins3 hcv3
                  have hgiB : w.heap.size ≤ gi := by obtain ⟨cur, hcu, hB⟩ := own_at HINS1.out (g := gi) rfl; exact hB
                  have HS4 : Hid (SI (w3.setCell ⟨gi, m, none⟩ (.slice (some ⟨g, 0, none⟩) (ins.length + 1) c)) w.heap.size gout n o (m + 1) (fE T ++ [f]) (fX T ++ [ins ++ [k]]) (.slice (some ⟨go_, 0, none⟩) (m + 1) co) (.slice (some ⟨ge, 0, none⟩) (m + 1) ce) (.slice (some ⟨gi, 0, none⟩) (m + 1) ci) (us ++ [.slice (some ⟨g, 0, none⟩) (ins.length + 1) c])) := by
                    have hln := HLN.out
                    have h := (H2.out.keep ((Below.refl _ _).alloc (Nat.le_refl _) (.cells #[.int .i64 (k : Int)] 3))).setIns (by rw [hln.2.1]) HO3.out HG3.out HL3.out
                    rw [hln.2.1] at h
                    exact h
                  have HB4 : Hid (Below w.heap.size w (w3.setCell ⟨gi, m, none⟩ (.slice (some ⟨g, 0, none⟩) (ins.length + 1) c))) := hb3.out.setCell hgiB _
                  have HIT : Hid (∀ j ∈ ins ++ [k], j < n) := fun j hj => by
                    clear hwm hwk
                    have hb := HB.out
                    rcases List.mem_append.1 hj with h | h
                    · have := hilt.out j h; omega
                    · simp at h; omega
                  clear H2 HROW1 HINS1 HEL1 HOP1 HXB hbel1 HO3 HG3 HL3 HX3 hb3 cx1 cv1
                  go_wp2
                  have HWK : Hid (wrap64 ((k : Int) + 1) = (k : Int) + 1) := hwk
                  clear hwm hwk
                  go_loopw [97] (fun ix wq => ∃ j : Nat, j ≤ ins.length + 1 ∧ ix = .int .i64 (j : Int) ∧ Hid (SI wq w.heap.size gout n (fun q => if q ∈ (ins ++ [k]).take j then k else o q) (m + 1) (fE T ++ [f]) (fX T ++ [ins ++ [k]]) (.slice (some ⟨go_, 0, none⟩) (m + 1) co) (.slice (some ⟨ge, 0, none⟩) (m + 1) ce) (.slice (some ⟨gi, 0, none⟩) (m + 1) ci) (us ++ [.slice (some ⟨g, 0, none⟩) (ins.length + 1) c])) ∧ Below w.heap.size w wq) (fun i _ => ins.length + 1 - (intOf i).toNat)
                  case atStart => exact ⟨0, by omega, rfl, by simpa [Hid] using HS4.out, HB4.out⟩
                  case round =>
                    clear HS4 HB4 cv4 cv3 fv3 cx4
                    obtain ⟨j, hj, rfl, hSj, hnj⟩ := hrel
                    have hln := HLN.out
                    by_cases hjl : j < ins.length + 1
                    · obtain ⟨e, he⟩ : ∃ e, (ins ++ [k])[j]? = some e := ⟨_, List.getElem?_eq_getElem (by simp; omega)⟩
                      have hem : e ∈ ins ++ [k] := List.mem_of_getElem? he
                      have hen : e < n := HIT.out e hem
                      have hrw := hSj.out.each m (.slice (some ⟨g, 0, none⟩) (ins.length + 1) c) (ins ++ [k]) (by rw [← hln.2.2.1]; simp) (by rw [← hln.2.1]; simp)
                      rw [List.length_append] at hrw
                      have hcj := (own_cell hrw (j := j) (u := .int .i64 (e : Int)) (by unfold nv; rw [List.getElem?_map, he]; rfl)).1
                      have hco1 : wr.cell? ⟨gout, e, none⟩ = some (.int .i64 (((fun q => if q ∈ (ins ++ [k]).take j then k else o q) e : Nat) : Int)) := by rw [cell_of_block hSj.out.out]; simp [outRow, hen]
                      have hfo1 : wr.frozen? ⟨gout, e, none⟩ = false := free_of_block hSj.out.out e
                      obtain ⟨oe, hoe⟩ : ∃ oe, wr.cell? ⟨gout, e, none⟩ = some oe := ⟨_, hco1⟩
                      have HE : Hid ((ins ++ [k])[j]? = some e) := he
                      have hei : (e : Int) < n := by omega
                      have hji : (j : Int) < (ins.length : Int) + 1 := by omega
                      clear he hem hco1 hrw
                      have hwj : wrap64 ((j : Int) + 1) = (j : Int) + 1 := w64k j (by have := HB.out; omega)
                      go_wp2
                      go_roundw
                      case rel =>
                        try rw [hwj]
                        clear hwj
                        refine ⟨j + 1, by omega, by go_num, ?_, hnj.setCell hSj.out.outB _⟩
                        have h := hSj.out.setOut e k
                        have ef : (fun q => if q = e then k else (if q ∈ (ins ++ [k]).take j then k else o q)) = fun q => if q ∈ (ins ++ [k]).take (j + 1) then k else o q := by
                          funext q
                          have hjL : j < (ins ++ [k]).length := by simp; omega
                          have e1 : (ins ++ [k])[j] = e := by have := HE.out; rw [List.getElem?_eq_getElem hjL] at this; simpa using this
                          rw [List.take_succ_eq_append_getElem hjL, e1]
                          by_cases hq : q = e
                          · simp [hq]
                          · simp [hq]
                        unfold Hid
                        rw [← ef]
                        exact h
                      case measure => (try rw [hwj]); clear hwj; simp [intOf]; omega
                    · have hje : j = ins.length + 1 := by omega
                      subst hje
                      have hS5 : Hid (SI wr w.heap.size gout n (fun q => if q ∈ ins ++ [k] then k else o q) m (fE T) (fX T) (.slice (some ⟨go_, 0, none⟩) m co) (.slice (some ⟨ge, 0, none⟩) m ce) (.slice (some ⟨gi, 0, none⟩) m ci) ((us ++ [Value.slice (some ⟨g, 0, none⟩) (ins.length + 1) c]).take m)) := by
                        have h := hSj.out
                        rw [List.take_of_length_le (by simp)] at h
                        have h2 := h.pop (by rw [hln.1]) (by rw [hln.2.1])
                        rw [hln.1, hln.2.1] at h2
                        exact h2
                      have hk1 : (m : Int) ≤ co := by have := HCI.out; omega
                      have hk2 : (m : Int) ≤ ce := by have := HCI.out; omega
                      have hk3 : (m : Int) ≤ ci := by have := HCI.out; omega
                      clear hSj hln
                      have hwk : wrap64 ((k : Int) + 1) = (k : Int) + 1 := HWK.out
                      go_wp2
                      go_roundw
                      case rel =>
                        try rw [hwk]
                        clear hwk
                        refine ⟨k + 1, T, _, d, (us ++ [Value.slice (some ⟨g, 0, none⟩) (ins.length + 1) c]).take m, by have := HB.out; omega, by go_num, rfl, hd, HF2.out, met_pop hmet.out, ?_, hnj⟩
                        have hln := HLN.out
                        rw [hln.2.2.2]
                        exact hS5.out
                      case measure => (try rw [hwk]); clear hwk; have hq := HB.out; simp [intOf]; omega
                · have q2 : (op == 2) = false := by simpa using n2
                  have q3 : (op == 3) = false := by simpa using n3
                  have q4 : (op == 4) = false := by simpa using n4
                  have q5 : (op == 5) = false := by simpa using n5
                  have q11 : (op == 11) = false := by simpa using n11
                  have HF2 : Hid (fw (k + 1) ((ops L).drop (k + 1)) ((f, ins ++ [k]) :: T) o d = fw 0 (ops L) [(true, [])] (fun _ => 0) 1) := by
                    have h := HF.out
                    have hno : opens op = false := by simp [opens, n2, n3, n4]
                    simp only [fw, hno, Bool.false_eq_true, if_false, n5, false_and, n11, decide_false, Bool.or_false] at h
                    exact h
                  clear n2 n3 n4 n5 n11
                  go_wp2_with (at_builtin; refine wpList_append_lies _ rfl _ _ 36 rfl w.heap.size 3 i0 (.int .i64 0) 1 8 Tryz.underlying36 i0i i00 i01 i02 rfl (by decide) _ _ _ rfl ((HROW1.out).alloc _) ⟨xb + 1, 0, none⟩ 1 1 [.int .i64 (k : Int)] rfl rfl (one_new _ _ _ _ (by clear hwm hwk; first | omega | (simp; omega))) (by intro u hu; simp at hu; subst hu; rfl) (by decide) (by clear hwm hwk; have := HB.out; unfold maxLen; omega) (by clear hwm hwk; have := HB.out; omega) (by clear hwm hwk; have := (hbel1.out).size; simp; omega) (xb + 1 + 1) (by clear hwm hwk; simp; omega) ?_)
                  intro g c w3 hown3 hgrow3 hlie3 hlt3
                  have HO3 : Hid (w3.ownsRow w.heap.size 3 1 (.slice (some ⟨g, 0, none⟩) (ins.length + 1) c) (ins.length + 1) (nv ins ++ [.int .i64 (k : Int)])) := hown3
                  have HG3 : Hid ((W1.alloc (.cells #[.int .i64 (k : Int)] 3)).grownBy w3 v.ownBlock) := hgrow3
                  have HL3 : Hid (v.ownBlock = some g ∨ g = (W1.alloc (.cells #[.int .i64 (k : Int)] 3)).heap.size) := by (clear hwm hwk; unfold Hid; rcases hlie3 with h | h; exact Or.inl h; right; simp; omega)
                  have hins3 : w3.ownsRow w.heap.size 36 1 (.slice (some ⟨gi, 0, none⟩) (m + 1) ci) (m + 1) (us ++ [v]) := own_keep ((HINS1.out).alloc _) (fun q hq => by obtain ⟨cur, hcu, _⟩ := own_at ((HINS1.out).alloc (.cells #[.int .i64 (k : Int)] 3)) hq; exact (grown_other ((HROW1.out).alloc _) hgrow3 hcu (by decide)).trans hcu.symm)
                  have hcv3 := own_cell hins3 (j := m) (u := v) (by have := HLN.out; rw [← this.2.2.1]; simp)
                  have cv3 := hcv3.1
                  have fv3 := hcv3.2
                  have HX3 : Hid (w3.heap[xb]? = some (.cells #[.int .i64 op, .int .i64 y] 41 (0, 0))) := grown_other ((HROW1.out).alloc _) hgrow3 ((Below.heap_alloc _ _ _ (lt_of_block (HXB.out))).trans (HXB.out)) (by decide)
                  have hxi : xb ≠ gi := fun e => by (obtain ⟨cur, hcu, _⟩ := own_at hins3 (g := gi) rfl; exact apart_types HX3.out hcu (by decide) e)
                  have cx4 : (w3.setCell ⟨gi, m, none⟩ (.slice (some ⟨g, 0, none⟩) (ins.length + 1) c)).cell? ⟨xb, 0, none⟩ = some (.int .i64 op) := by (rw [cell_of_block ((heap_setCell_other _ _ _ _ hxi).trans HX3.out)]; rfl)
                  have hb3 : Hid (Below w.heap.size w w3) := (bel_alloc (hbel1.out) _).grown hgrow3 (by clear hwm hwk; have := (hbel1.out).size; simp; omega) (ownsRow_block (HROW1.out))
                  clear hown3 hgrow3 hlie3 hins3 hcv3
                  go_wp2
                  go_roundw
                  case rel =>
                    try rw [hwk]
                    clear hwm hwk
                    have hln := HLN.out
                    refine ⟨k + 1, (f, ins ++ [k]) :: T, o, d, us ++ [.slice (some ⟨g, 0, none⟩) (ins.length + 1) c], by omega, by go_num, rfl, hd, HF2.out, met_more hmet.out, ?_, ?_⟩
                    · have h := (H2.out.keep ((Below.refl _ _).alloc (Nat.le_refl _) (.cells #[.int .i64 (k : Int)] 3))).setIns (by rw [hln.2.1]) HO3.out HG3.out HL3.out
                      rw [hln.2.1] at h
                      unfold Hid
                      rw [fE_cons, fX_cons, List.length_cons, hln.2.2.2]
                      exact h
                    · exact hb3.out.setCell (by obtain ⟨cur, hcu, hB⟩ := own_at HINS1.out (g := gi) rfl; exact hB) _
                  case measure => (try rw [hwk]); clear hwm hwk; have hq := HB.out; simp [intOf]; omega
    · have hkn : k = n := by omega
      subst hkn
      have hdr : (ops L).drop k = [] := List.drop_of_length_le (by have := HN.out.1; simp [ops]; omega)
      have hfw2 := hfw.out
      rw [hdr] at hfw2
      obtain ⟨xs, hop⟩ := hSI.out.op
      obtain ⟨ao, co, rfl⟩ := ownsRow_shape hop
      cases S with
      | nil =>
        have hfw3 : Hid (fw 0 (ops L) [(true, [])] (fun _ => 0) 1 = some (o, d)) := by unfold Hid; rw [← hfw2]; rfl
        have hout : Hid (wr.heap[gout]? = some (.cells (outRow o k) 3 (0, 0)) ∧ w.heap.size ≤ gout) := ⟨hSI.out.out, hSI.out.outB⟩
        clear hop hSI hmet hfw hfw2 hdr
        go_wp2
        refine bodyPost_ret (v := .tuple #[.slice (some ⟨gout, 0, none⟩) k k, .int .i64 (d : Int), .bool true]) (by simp [results, Tryz.results36, go_sem]) rfl (told_yes hres.out hfw3.out HN.out.1.symm HN.out.2.2 hout.out.1 hout.out.2 hnx)
      | cons F T =>
        have he : Hid (eo L = none) := eo_none hres.out (by rw [← hfw2]; simp [fw])
        obtain ⟨q, hq⟩ : ∃ q : Int, (((F :: T).length : Nat) : Int) = q := ⟨_, rfl⟩
        have hne : (q == 0) = false := by rw [← hq]; simp; omega
        obtain ⟨z, hz⟩ : ∃ z, (F :: T).length = z := ⟨_, rfl⟩
        have hne2 : ((z : Int) == 0) = false := by rw [← hz]; simp; omega
        rw [hz] at hop ⊢
        clear hop hSI hmet hfw hfw2 hdr hq hne hz
        go_wp2
        refine bodyPost_ret (v := .tuple #[.slice (some ⟨gout, 0, none⟩) k k, .int .i64 (d : Int), .bool false]) (by simp [results, Tryz.results36, go_sem]) rfl (told_no he.out hnx)

end Go.Proofs.YtcgnefgdfgikdaaGreat
