/-
  The program's check: one instruction.
-/
import Derived.Test.YtcgnefgdfgikdaaGreatKA2
import Derived.Test.YtcgnefgdfgikdaaGreatKA4
namespace Go.Proofs.YtcgnefgdfgikdaaGreat
open Go.ChangeShapes Go.WideShapes Go.ChangeAt Go.RowKit

theorem takes_snoc (l : List Int) (x : Int) (s : St) : takes (l ++ [x]) s = (takes l s).bind fun s' => takeI x s' := by
  unfold takes
  rw [List.foldlM_append]
  cases List.foldlM (fun s k => takeI k s) s l with
  | error c => rfl
  | ok s' =>
    show (List.foldlM (fun s k => takeI k s) s' [x]) = takeI x s'
    simp only [List.foldlM]
    cases takeI x s' <;> rfl
theorem takes_take (l : List Int) (k : Nat) (h : k < l.length) (s : St) : takes (l.take (k + 1)) s = (takes (l.take k) s).bind fun s' => takeI l[k] s' := by
  rw [List.take_succ_eq_append_getElem h, takes_snoc]
theorem takes_app_err (l m : List Int) (s : St) (c : Int) (h : takes l s = .error c) : takes (l ++ m) s = .error c := by
  unfold takes at *
  rw [List.foldlM_append, h]
  rfl
theorem takes_err (l : List Int) (k : Nat) (s : St) (c : Int) (h : takes (l.take k) s = .error c) : takes l s = .error c := by
  have := takes_app_err (l.take k) (l.drop k) s c h
  rwa [List.take_append_drop] at this
theorem intEff_len (k t : Int) : (intEff k t).1.length ≤ 20 := by
  unfold intEff
  repeat' split
  all_goals simp
theorem floatEff_len (k : Int) : (floatEff k).1.length ≤ 20 := by
  unfold floatEff
  repeat' split
  all_goals simp
theorem plainEff_len (op : Int) : (plainEff op).1.length ≤ 20 := by
  unfold plainEff
  repeat' split
  all_goals first | exact intEff_len _ _ | exact floatEff_len _ | simp
theorem memEff_len (op : Int) : (memEff op).1.length ≤ 20 := by
  unfold memEff
  repeat' split
  all_goals simp
theorem varEff_len (op t : Int) : (varEff op t).1.length ≤ 20 := by
  unfold varEff
  repeat' split
  all_goals simp
theorem effS_len {M : Mod7} {own : List Int} {op a : Int} {s : St} {q : List Int × Int} (h : effS M own op a s = .ok q) (hp : ∀ f ∈ M.fs, f.ps.length ≤ 20) : q.1.length ≤ 20 := by
  unfold effS at h
  split at h
  · rcases hr : wantsS a s with c | k
    · rw [hr] at h; simp [Except.map] at h
    · rw [hr] at h; simp [Except.map] at h; subst h; simp
  · split at h
    · split at h
      · simp at h
      · rename_i f hf
        simp at h; subst h
        simp only [List.length_reverse]
        exact hp _ (List.mem_of_getElem? hf)
    · split at h
      · split at h
        · simp at h
        · simp at h; subst h; exact varEff_len _ _
      · split at h
        · split at h
          · simp at h
          · split at h
            · simp at h
            · simp at h; subst h; exact varEff_len _ _
        · split at h
          · split at h
            · simp at h; subst h; exact memEff_len _
            · simp at h
          · simp at h; subst h; exact plainEff_len _
theorem takes_opn (l : List Int) : ∀ {s s' : St}, takes l s = .ok s' → s'.opn = s.opn ∧ s'.most = s.most ∧ s'.vals.length ≤ s.vals.length ∧ ((∀ t ∈ s.vals, okTy t) → ∀ t ∈ s'.vals, okTy t) := by
  induction l with
  | nil => intro s s' h; unfold takes at h; simp [List.foldlM, pure, Except.pure] at h; subst h; exact ⟨rfl, rfl, Nat.le_refl _, fun h => h⟩
  | cons x l ih =>
    intro s s' h
    have e : takes (x :: l) s = (takeI x s).bind fun s1 => takes l s1 := by
      unfold takes; simp only [List.foldlM]; rfl
    rw [e] at h
    rcases hr : takeI x s with c | s1
    · rw [hr] at h; simp [Except.bind] at h
    · rw [hr] at h
      simp only [Except.bind] at h
      obtain ⟨h1, h2, h3, h4⟩ := ih h
      obtain ⟨k1, k2, k3⟩ := takeI_opn hr
      exact ⟨h1.trans k1, h2.trans k2, Nat.le_trans h3 k3, fun hv => h4 (takeI_ok hr hv)⟩
theorem Ints.touch {w w' : World} {g : Nat} {a : Option Addr} {L : List Int} (h : Ints w a L) (ho : Off g a) (ht : Touch g w w') : Ints w' a L := fun hn => by
  obtain ⟨b, off, ha, hl, hc⟩ := h hn
  have hne := ho b off ha
  refine ⟨b, off, ha, Nat.lt_of_lt_of_le hl ht.1, fun i hi => ?_⟩
  have h1 := hc i hi
  unfold World.cell? at h1 ⊢
  rw [ht.2 b hl hne]
  exact h1
/-- What one instruction is met with. -/
structure Meet (V : World) (g : Nat) (E : EnvI) (own : List Int) (s : St) (b : Blk) (r : List Blk) (op a : Int) : Prop where
  env : EnvOk V g E own
  opn : s.opn = b :: r
  lim : Lim s
  vals : ∀ t ∈ s.vals, okTy t
  low : b.h ≤ s.vals.length
  sp : ∀ (j : Nat) b, s.opn[j]? = some b → b.split = true → b.op = 4

set_option maxRecDepth 100000 in
set_option maxHeartbeats 3200000 in
theorem step_eff (V : World) (g : Nat) (E : EnvI) (at_ : Int) (s : St) (own : List Int) (b : Blk) (r : List Blk) (op a : Int) (vf : Value) (w : World) (h : CI w g E at_ s vf) (hV : Below V.heap.size V w) (hM : Hid (Meet V g E own s b r op a)) (hop : effOps op) (ha : op = 13 ∨ op = 16 ∨ op = 32 ∨ op = 33 ∨ op = 34 ∨ op = 35 ∨ op = 36 → 0 ≤ a) :
    Calls Tryz.prog 33 #[.pointer (some ⟨g, 0, none⟩), .agg #[.int .i64 op, .int .i64 a]] w fun e w' => OutI w g E at_ (stepS E.M own E.res op a s) e w' := by
  have hnots : (op == 2) = false ∧ (op == 3) = false ∧ (op == 4) = false ∧ (op == 5) = false ∧ (op == 11) = false ∧ (op == 0) = false ∧ (op == 15) = false ∧ (op == 12) = false ∧ (op == 27) = false := by
    unfold effOps plains at hop
    simp only [List.mem_cons, List.not_mem_nil, or_false] at hop
    simp only [beq_eq_false_iff_ne, ne_eq]
    omega
  have HS : Hid (stepS E.M own E.res op a s = (effS E.M own op a s).bind fun e => (takes e.1 s).map (putI e.2)) := by
    unfold Hid stepS
    simp only [beq_eq_false_iff_ne, ne_eq] at hnots
    rw [if_neg (by omega), if_neg (by omega), if_neg (by omega), if_neg (by omega), if_neg (by omega), if_neg (by omega), if_neg (by omega), if_neg (by omega)]
  obtain ⟨W, hW⟩ : ∃ W, w.alloc (.cells #[.int .i64 op, .int .i64 a] 41) = W := ⟨_, rfl⟩
  have hbW : Below w.heap.size w W := by rw [← hW]; exact (Below.refl _ _).alloc (Nat.le_refl _) _
  have hm := hM.out
  have T := effectOfI V g E at_ s own op a vf W (h.keep hbW) hm.env (bel_step hV hbW) (by rw [hm.opn]; simp) hm.lim hm.sp hop ha
  have HCW : Hid (CI W g E at_ s vf) := h.keep hbW
  have HBW : Hid (Below w.heap.size w W ∧ g < w.heap.size) := ⟨hbW, h.lt⟩
  have HW : Hid (w.alloc (.cells #[.int .i64 op, .int .i64 a] 41) = W) := hW
  obtain ⟨n1, n2, n3, n4, n5, n6, n7, n8, n9⟩ := hnots
  clear hm hW hbW h hop ha hV
  go_enter Tryz.func33, Tryz.ntmps33
  go_wp2_with fail
  rw [HW.out]
  refine T.mono ?_
  rintro e w1 ho
  clear n1 n2 n3 n4 n5 n6 n7 n8 n9
  rcases hr : effS E.M own op a s with c | q
  · rw [hr] at ho
    obtain ⟨rfl, hb1⟩ := ho
    have HR : Hid (stepS E.M own E.res op a s = .error c) := by unfold Hid; rw [HS.out, hr]; rfl
    have HB : Hid (Below g w w1) := (bel_step HBW.out.1 hb1).mono (Nat.le_of_lt HBW.out.2)
    have HC : Hid (CI w1 g E at_ s vf) := HCW.out.keep hb1
    clear hr T hb1
    first
      | exact ⟨rfl, HB.out, by rw [HR.out]; exact ⟨rfl, _, _, HC.out⟩⟩
      | (go_wp2; exact ⟨rfl, HB.out, by rw [HR.out]; exact ⟨rfl, _, _, HC.out⟩⟩)
  rw [hr] at ho
  obtain ⟨a', cap', rfl, hi, hb1, hoo⟩ := ho
  have HR : Hid (stepS E.M own E.res op a s = (takes q.1 s).map (putI q.2)) := by unfold Hid; rw [HS.out, hr]; rfl
  obtain ⟨n, hn⟩ : ∃ n, q.1.length = n := ⟨_, rfl⟩
  obtain ⟨p, hp⟩ : ∃ p, q.2 = p := ⟨_, rfl⟩
  obtain ⟨z, hz⟩ : ∃ z, w1.heap.size = z := ⟨_, rfl⟩
  obtain ⟨W2, hW2⟩ : ∃ W, w1.alloc (.cells #[.slice a' n cap', .int .i64 p] 95) = W := ⟨_, rfl⟩
  have hb2 : Below w1.heap.size w1 W2 := by rw [← hW2]; exact (Below.refl _ _).alloc (Nat.le_refl _) _
  have HZ2 : Hid (W2.heap[z]? = some (.cells #[.slice a' n cap', .int .i64 p] 95 (0, 0))) := by unfold Hid; rw [← hW2, ← hz]; exact heap_alloc_new _ _
  have HC2 : Hid (CI W2 g E at_ s vf) := (HCW.out.keep hb1).keep hb2
  have HB2 : Hid (Below g w W2) := (bel_step (bel_step HBW.out.1 hb1) hb2).mono (Nat.le_of_lt HBW.out.2)
  have hgW : g < W.heap.size := HCW.out.lt
  have HO : Hid (Off g a' ∧ g ≠ z) := ⟨hoo g hgW, by have := hb1.size; omega⟩
  have HI2 : Hid (Ints W2 a' q.1) := hi.below hb2
  have HN : Hid (q.1.length = n ∧ q.2 = p) := ⟨hn, hp⟩
  have HW2 : Hid (w1.alloc (.cells #[.slice a' n cap', .int .i64 p] 95) = W2 ∧ w1.heap.size = z) := ⟨hW2, hz⟩
  have hn3 : n ≤ 20 := by rw [← hn]; exact effS_len hr hM.out.env.ps
  clear hr T hi hb1 hoo hn hp hz hW2 hb2 hgW HS
  go_wp2_with fail
  simp only [HN.out.1, HN.out.2]
  go_wp2_with fail
  rw [HW2.out.2, HW2.out.1]
  go_wp2_with fail
  go_loopw [15] (fun vi wr => ∃ (k : Nat) (sk : St), k ≤ n ∧ vi = .int .i64 k ∧ Hid (takes (q.1.take k) s = .ok sk) ∧ Hid (CI wr g E at_ sk vf) ∧ Hid (Ints wr a' q.1) ∧ Hid (wr.heap[z]? = some (.cells #[.slice a' n cap', .int .i64 p] 95 (0, 0))) ∧ Hid (Below g w wr)) (fun vi _ => n - (intOf vi).toNat)
  case atStart => exact ⟨0, s, by omega, rfl, rfl, HC2, HI2, HZ2, HB2⟩
  case round =>
    clear HC2 HI2 HZ2 HB2
    obtain ⟨k, sk, hk, rfl, hT, hC, hI, hZ, hB⟩ := hrel
    by_cases hlt : k < n
    · have hkL : k < q.1.length := by have := HN.out.1; omega
      obtain ⟨b0, off0, rfl, hb0, hc0⟩ := hI.out.at k hkL
      obtain ⟨x, hx⟩ : ∃ x, q.1[k] = x := ⟨_, rfl⟩
      rw [hx] at hc0
      have ht1 := takes_take q.1 k hkL s
      rw [hT.out, hx] at ht1
      simp only [Except.bind] at ht1
      have hso := takes_opn _ hT.out
      have hm := hM.out
      have T1 := takeKI g E at_ sk b r x vf wr hC.out (hso.1.trans hm.opn) ⟨by have := hm.lim.1; omega, by rw [hso.1]; exact hm.lim.2⟩ (hso.2.2.2 hm.vals)
      have HT1 : Hid (takes (q.1.take (k + 1)) s = takeI x sk) := ht1
      clear hx ht1 hso hm
      go_wp2_with fail
      refine T1.mono ?_
      rintro e w5 ⟨⟨hb5, htc⟩, ho⟩
      rcases hr5 : takeI x sk with c | s5
      · rw [hr5] at ho
        obtain ⟨rfl, s', vf', hci⟩ := ho
        have HE : Hid (stepS E.M own E.res op a s = .error c) := by
          unfold Hid; rw [HR.out, takes_err q.1 (k + 1) s c (by rw [HT1.out, hr5])]; rfl
        have HB5 : Hid (Below g w w5) := hB.out.trans hb5
        have HC5 : Hid (∃ s' vf', CI w5 g E at_ s' vf') := ⟨s', vf', hci⟩
        clear hr5 hci T1 hb5 htc
        first
          | exact ⟨rfl, HB5.out, by rw [HE.out]; exact ⟨rfl, HC5.out⟩⟩
          | (go_wp2; exact ⟨rfl, HB5.out, by rw [HE.out]; exact ⟨rfl, HC5.out⟩⟩)
      · rw [hr5] at ho
        obtain ⟨⟨v, rfl⟩, hci⟩ := ho
        have HT5 : Hid (takes (q.1.take (k + 1)) s = .ok s5) := by unfold Hid; rw [HT1.out, hr5]
        have HC5 : Hid (CI w5 g E at_ s5 vf) := hci
        have HI5 : Hid (Ints w5 (some ⟨b0, off0, none⟩) q.1) := hI.out.touch HO.out.1 htc
        have HZ5 : Hid (w5.heap[z]? = some (.cells #[.slice (some ⟨b0, off0, none⟩) n cap', .int .i64 p] 95 (0, 0))) := (htc.2 z (lt_of_block hZ.out) (Ne.symm HO.out.2)).trans hZ.out
        have HB5 : Hid (Below g w w5) := hB.out.trans hb5
        clear hr5 hci T1 hb5 htc hT hC hI hZ hB
        go_wp2
        go_roundw
        case rel => exact ⟨k + 1, s5, by omega, by go_num, HT5, HC5, HI5, HZ5, HB5⟩
        case measure => simp [intOf]; omega
    · have HE : Hid (stepS E.M own E.res op a s = .ok (putI p sk)) := by
        unfold Hid; rw [HR.out, HN.out.2]
        have h := hT.out
        rw [List.take_of_length_le (by have := HN.out.1; omega)] at h
        rw [h]; rfl
      have hso := takes_opn _ hT.out
      have P := putKI g E at_ sk p vf wr hC.out ⟨by have := hM.out.lim.1; omega, by rw [hso.1]; exact hM.out.lim.2⟩
      have y1 : wr.cell? ⟨z, 1, none⟩ = some (.int .i64 p) := (cell_of_block hZ.out 1).trans rfl
      clear hso
      go_wp2_with (go_at_call 54; refine P.mono ?_; rintro e w5 ⟨rfl, hc5, hb5⟩; clear P)
      go_end0
      exact ⟨hB.out.trans (by assumption), by rw [HE.out]; exact ⟨rfl, _, by assumption⟩⟩

end Go.Proofs.YtcgnefgdfgikdaaGreat

namespace Go.Proofs.YtcgnefgdfgikdaaGreat
open Go.ChangeShapes Go.WideShapes Go.ChangeAt Go.RowKit

theorem outI_of {w w1 w2 : World} {g : Nat} {E : EnvI} {at_ : Int} {vf : Value} {r : Except Int St} {e : Ending} (h : OutC w1 g E at_ vf r e w2) (hb : Below g w w1) : OutI w g E at_ r e w2 := by
  obtain ⟨hb1, ho⟩ := h
  refine ⟨hb.trans hb1, ?_⟩
  rcases r with c | s'
  · exact ho
  · exact ⟨ho.1, _, ho.2⟩
theorem outI_on {w w1 w2 : World} {g : Nat} {E : EnvI} {at_ : Int} {r : Except Int St} {e : Ending} (h : OutI w1 g E at_ r e w2) (hb : Below g w w1) : OutI w g E at_ r e w2 := ⟨hb.trans h.1, h.2⟩

set_option maxRecDepth 100000 in
set_option maxHeartbeats 3200000 in
theorem step_block (V : World) (g : Nat) (E : EnvI) (at_ : Int) (s : St) (own : List Int) (b : Blk) (r : List Blk) (op a : Int) (vf : Value) (w : World) (h : CI w g E at_ s vf) (hM : Hid (Meet V g E own s b r op a)) (hop : op = 2 ∨ op = 3) :
    Calls Tryz.prog 33 #[.pointer (some ⟨g, 0, none⟩), .agg #[.int .i64 op, .int .i64 a]] w fun e w' => OutI w g E at_ (stepS E.M own E.res op a s) e w' := by
  have HS : Hid (stepS E.M own E.res op a s = .ok (beginS op a s)) := if_pos hop
  have hbW : Below w.heap.size w (w.alloc (.cells #[.int .i64 op, .int .i64 a] 41)) := (Below.refl _ _).alloc (Nat.le_refl _) _
  have T := openI g E at_ s op a vf _ (h.keep hbW) hM.out.lim
  have HB : Hid (Below g w (w.alloc (.cells #[.int .i64 op, .int .i64 a] 41))) := hbW.mono (Nat.le_of_lt h.lt)
  clear hbW h
  rcases hop with rfl | rfl
  all_goals
    go_enter Tryz.func33, Tryz.ntmps33
    go_wp2_with fail
    refine T.mono ?_
    rintro e w1 ⟨rfl, hci, hb1⟩
    have HB1 : Hid (Below g w w1) := HB.out.trans hb1
    clear T hb1
    go_wp2
    go_end0
    exact ⟨HB1.out, by rw [HS.out]; exact ⟨rfl, by assumption⟩⟩

set_option maxRecDepth 100000 in
set_option maxHeartbeats 3200000 in
theorem step_if (V : World) (g : Nat) (E : EnvI) (at_ : Int) (s : St) (own : List Int) (b : Blk) (r : List Blk) (a : Int) (vf : Value) (w : World) (h : CI w g E at_ s vf) (hM : Hid (Meet V g E own s b r 4 a)) :
    Calls Tryz.prog 33 #[.pointer (some ⟨g, 0, none⟩), .agg #[.int .i64 4, .int .i64 a]] w fun e w' => OutI w g E at_ (stepS E.M own E.res 4 a s) e w' := by
  have HS : Hid (stepS E.M own E.res 4 a s = (takeI 127 s).map (beginS 4 a)) := rfl
  obtain ⟨W, hW⟩ : ∃ W, w.alloc (.cells #[.int .i64 4, .int .i64 a] 41) = W := ⟨_, rfl⟩
  obtain ⟨z, hz⟩ : ∃ z, w.heap.size = z := ⟨_, rfl⟩
  have hbW : Below w.heap.size w W := by rw [← hW]; exact (Below.refl _ _).alloc (Nat.le_refl _) _
  have hZ : W.heap[z]? = some (.cells #[.int .i64 4, .int .i64 a] 41 (0, 0)) := by rw [← hW, ← hz]; exact heap_alloc_new _ _
  have hm := hM.out
  have T := takeKI g E at_ s b r 127 vf W (h.keep hbW) hm.opn hm.lim hm.vals
  have HB : Hid (Below g w W) := hbW.mono (Nat.le_of_lt h.lt)
  have HW : Hid (w.alloc (.cells #[.int .i64 4, .int .i64 a] 41) = W ∧ w.heap.size = z) := ⟨hW, hz⟩
  have hgz : g ≠ z := by have := h.lt; omega
  clear hbW h hW hz hm
  go_enter Tryz.func33, Tryz.ntmps33
  go_wp2_with fail
  rw [HW.out.2, HW.out.1]
  refine T.mono ?_
  rintro e w1 ⟨⟨hb1, htc⟩, ho⟩
  have HB1 : Hid (Below g w w1) := HB.out.trans hb1
  rcases hr : takeI 127 s with c | s1
  · rw [hr] at ho
    obtain ⟨rfl, hci⟩ := ho
    have HR : Hid (stepS E.M own E.res 4 a s = .error c) := by unfold Hid; rw [HS.out, hr]; rfl
    have HC : Hid (∃ s' vf', CI w1 g E at_ s' vf') := hci
    clear hr hci T hb1 htc
    first
      | exact ⟨rfl, HB1.out, by rw [HR.out]; exact ⟨rfl, HC.out⟩⟩
      | (go_wp2; exact ⟨rfl, HB1.out, by rw [HR.out]; exact ⟨rfl, HC.out⟩⟩)
  · rw [hr] at ho
    obtain ⟨⟨v, rfl⟩, hci⟩ := ho
    have HR : Hid (stepS E.M own E.res 4 a s = .ok (beginS 4 a s1)) := by unfold Hid; rw [HS.out, hr]; rfl
    have hZ1 := (htc.2 z (lt_of_block hZ) (Ne.symm hgz)).trans hZ
    have y0 : w1.cell? ⟨z, 0, none⟩ = some (.int .i64 4) := (cell_of_block hZ1 0).trans rfl
    have y1 : w1.cell? ⟨z, 1, none⟩ = some (.int .i64 a) := (cell_of_block hZ1 1).trans rfl
    have hso := takeI_opn hr
    have T2 := openI g E at_ s1 4 a vf w1 hci ⟨by have := hM.out.lim.1; omega, by rw [hso.1]; exact hM.out.lim.2⟩
    clear hr hci T hb1 htc hZ1 hso
    go_wp2_with fail
    refine T2.mono ?_
    rintro e w2 ⟨rfl, hci, hb2⟩
    have HB2 : Hid (Below g w w2) := HB1.out.trans hb2
    clear T2 hb2
    go_wp2
    go_end0
    exact ⟨HB2.out, by rw [HR.out]; exact ⟨rfl, by assumption⟩⟩

set_option maxRecDepth 100000 in
set_option maxHeartbeats 3200000 in
theorem step_one (V : World) (g : Nat) (E : EnvI) (at_ : Int) (s : St) (own : List Int) (b : Blk) (r : List Blk) (op a : Int) (vf : Value) (w : World) (h : CI w g E at_ s vf) (hM : Hid (Meet V g E own s b r op a)) (hop : op = 5 ∨ op = 11 ∨ op = 0 ∨ op = 27) :
    Calls Tryz.prog 33 #[.pointer (some ⟨g, 0, none⟩), .agg #[.int .i64 op, .int .i64 a]] w fun e w' => OutI w g E at_ (stepS E.M own E.res op a s) e w' := by
  have hbW : Below w.heap.size w (w.alloc (.cells #[.int .i64 op, .int .i64 a] 41)) := (Below.refl _ _).alloc (Nat.le_refl _) _
  have HB : Hid (Below g w (w.alloc (.cells #[.int .i64 op, .int .i64 a] 41))) := hbW.mono (Nat.le_of_lt h.lt)
  have hc := h.keep hbW
  have hm := hM.out
  rcases hop with rfl | rfl | rfl | rfl
  · have T := divideI g E at_ s b r vf _ hc hm.opn hm.lim hm.vals
    have HS : Hid (stepS E.M own E.res 5 a s = elseS s) := rfl
    clear hbW h hc hm
    go_enter Tryz.func33, Tryz.ntmps33
    go_wp2_with fail
    refine T.mono ?_
    rintro e w1 ho
    have HO := outI_of ho HB.out
    rw [← HS.out] at HO
    rcases hr : stepS E.M own E.res 5 a s with c | s1
    · rw [hr] at HO
      obtain ⟨hb1, rfl, hci⟩ := HO
      clear ho T
      first
        | exact ⟨rfl, hb1, by rw [hr]; exact ⟨rfl, hci⟩⟩
        | (go_wp2; exact ⟨rfl, hb1, by rw [hr]; exact ⟨rfl, hci⟩⟩)
    · rw [hr] at HO
      obtain ⟨hb1, rfl, hci⟩ := HO
      have HR : Hid (stepS E.M own E.res 5 a s = .ok s1) := hr
      clear ho T hr
      go_wp2
      go_end0
      exact ⟨hb1, by rw [HR.out]; exact ⟨rfl, hci⟩⟩
  · have T := endI g E at_ s b r vf _ hc hm.opn hm.lim hm.vals
    have HS : Hid (stepS E.M own E.res 11 a s = endS s) := rfl
    clear hbW h hc hm
    go_enter Tryz.func33, Tryz.ntmps33
    go_wp2_with fail
    refine T.mono ?_
    rintro e w1 ho
    have HO := outI_on ho HB.out
    rw [← HS.out] at HO
    rcases hr : stepS E.M own E.res 11 a s with c | s1
    · rw [hr] at HO
      obtain ⟨hb1, rfl, hci⟩ := HO
      clear ho T
      first
        | exact ⟨rfl, hb1, by rw [hr]; exact ⟨rfl, hci⟩⟩
        | (go_wp2; exact ⟨rfl, hb1, by rw [hr]; exact ⟨rfl, hci⟩⟩)
    · rw [hr] at HO
      obtain ⟨hb1, rfl, hci⟩ := HO
      have HR : Hid (stepS E.M own E.res 11 a s = .ok s1) := hr
      clear ho T hr
      go_wp2
      go_end0
      exact ⟨hb1, by rw [HR.out]; exact ⟨rfl, hci⟩⟩
  · have T := dieI g E at_ s b r vf _ hc hm.opn hm.lim hm.low
    have HR : Hid (stepS E.M own E.res 0 a s = .ok (dieS s)) := rfl
    clear hbW h hc hm
    go_enter Tryz.func33, Tryz.ntmps33
    go_wp2_with fail
    refine T.mono ?_
    rintro e w1 ⟨rfl, hci, hb1⟩
    have HB1 : Hid (Below g w w1) := HB.out.trans hb1
    clear T hb1
    go_wp2
    go_end0
    exact ⟨HB1.out, by rw [HR.out]; exact ⟨rfl, _, hci⟩⟩
  · have T := chooseI g E at_ s b r vf _ hc hm.opn hm.lim hm.vals
    have HS : Hid (stepS E.M own E.res 27 a s = selS s) := rfl
    clear hbW h hc hm
    go_enter Tryz.func33, Tryz.ntmps33
    go_wp2_with fail
    refine T.mono ?_
    rintro e w1 ho
    have HO := outI_of ho HB.out
    rw [← HS.out] at HO
    rcases hr : stepS E.M own E.res 27 a s with c | s1
    · rw [hr] at HO
      obtain ⟨hb1, rfl, hci⟩ := HO
      clear ho T
      first
        | exact ⟨rfl, hb1, by rw [hr]; exact ⟨rfl, hci⟩⟩
        | (go_wp2; exact ⟨rfl, hb1, by rw [hr]; exact ⟨rfl, hci⟩⟩)
    · rw [hr] at HO
      obtain ⟨hb1, rfl, hci⟩ := HO
      have HR : Hid (stepS E.M own E.res 27 a s = .ok s1) := hr
      clear ho T hr
      go_wp2
      go_end0
      exact ⟨hb1, by rw [HR.out]; exact ⟨rfl, hci⟩⟩

/-- A take leaves the stack no lower than the block's height. -/
theorem takeI_low {k : Int} {s s' : St} {b : Blk} {r : List Blk} (h : takeI k s = .ok s') (hs : s.opn = b :: r) (hl : b.h ≤ s.vals.length) : b.h ≤ s'.vals.length := by
  unfold takeI at h
  split at h
  · simp at h; subst h; exact hl
  · unfold takeT at h
    rw [hs] at h
    simp only at h
    split at h
    · split at h
      · simp [Except.map] at h; subst h; exact hl
      · simp [Except.map] at h
    · rename_i hn
      split at h
      · simp [Except.map] at h
      · rename_i t vs e
        split at h
        · simp [Except.map] at h; subst h; rw [e, List.length_cons] at hn; simp only; omega
        · simp [Except.map] at h

set_option maxRecDepth 100000 in
set_option maxHeartbeats 3200000 in
theorem step_ret (V : World) (g : Nat) (E : EnvI) (at_ : Int) (s : St) (own : List Int) (b : Blk) (r : List Blk) (a : Int) (vf : Value) (w : World) (h : CI w g E at_ s vf) (hM : Hid (Meet V g E own s b r 15 a)) :
    Calls Tryz.prog 33 #[.pointer (some ⟨g, 0, none⟩), .agg #[.int .i64 15, .int .i64 a]] w fun e w' => OutI w g E at_ (stepS E.M own E.res 15 a s) e w' := by
  have HS : Hid (stepS E.M own E.res 15 a s = (takeI E.res s).map dieS) := rfl
  have hbW : Below w.heap.size w (w.alloc (.cells #[.int .i64 15, .int .i64 a] 41)) := (Below.refl _ _).alloc (Nat.le_refl _) _
  have HB : Hid (Below g w (w.alloc (.cells #[.int .i64 15, .int .i64 a] 41))) := hbW.mono (Nat.le_of_lt h.lt)
  have hm := hM.out
  have T := takeKI g E at_ s b r E.res vf _ (h.keep hbW) hm.opn hm.lim hm.vals
  obtain ⟨⟨vs, h0, _, _⟩, _⟩ := h
  have c7 : w.cell? ⟨g, 7, none⟩ = some (.int .i64 E.res) := by rw [cell_of_block h0]; rfl
  have hlt := lt_of_block h0
  obtain ⟨rs, hrs⟩ : ∃ x, E.res = x := ⟨_, rfl⟩
  have HRS : Hid (E.res = rs) := hrs
  rw [hrs] at c7 T
  clear hbW h0 hm hrs
  go_enter Tryz.func33, Tryz.ntmps33
  go_wp2_with fail
  refine T.mono ?_
  rintro e w1 ⟨⟨hb1, htc⟩, ho⟩
  have HB1 : Hid (Below g w w1) := HB.out.trans hb1
  rcases hr : takeI rs s with c | s1
  · rw [hr] at ho
    obtain ⟨rfl, hci⟩ := ho
    have HR : Hid (stepS E.M own E.res 15 a s = .error c) := by unfold Hid; rw [HS.out, HRS.out, hr]; rfl
    have HC : Hid (∃ s' vf', CI w1 g E at_ s' vf') := hci
    clear hr hci T hb1 htc
    first
      | exact ⟨rfl, HB1.out, by rw [HR.out]; exact ⟨rfl, HC.out⟩⟩
      | (go_wp2; exact ⟨rfl, HB1.out, by rw [HR.out]; exact ⟨rfl, HC.out⟩⟩)
  · rw [hr] at ho
    obtain ⟨⟨v, rfl⟩, hci⟩ := ho
    have HR : Hid (stepS E.M own E.res 15 a s = .ok (dieS s1)) := by unfold Hid; rw [HS.out, HRS.out, hr]; rfl
    have hso := takeI_opn hr
    have T2 := dieI g E at_ s1 b r vf w1 hci (hso.1.trans hM.out.opn) ⟨by have := hM.out.lim.1; omega, by rw [hso.1]; exact hM.out.lim.2⟩ (takeI_low hr hM.out.opn hM.out.low)
    clear hr hci T hb1 htc hso
    go_wp2_with fail
    refine T2.mono ?_
    rintro e w2 ⟨rfl, hci, hb2⟩
    have HB2 : Hid (Below g w w2) := HB1.out.trans hb2
    clear T2 hb2
    go_wp2
    go_end0
    exact ⟨HB2.out, by rw [HR.out]; exact ⟨rfl, _, hci⟩⟩

set_option maxRecDepth 100000 in
set_option maxHeartbeats 3200000 in
theorem step_br (V : World) (g : Nat) (E : EnvI) (at_ : Int) (s : St) (own : List Int) (b : Blk) (r : List Blk) (a : Nat) (vf : Value) (w : World) (h : CI w g E at_ s vf) (hM : Hid (Meet V g E own s b r 12 (a : Int))) :
    Calls Tryz.prog 33 #[.pointer (some ⟨g, 0, none⟩), .agg #[.int .i64 12, .int .i64 (a : Int)]] w fun e w' => OutI w g E at_ (stepS E.M own E.res 12 (a : Int) s) e w' := by
  have HS : Hid (stepS E.M own E.res 12 (a : Int) s = (wantsS (a : Int) s).bind fun k => (takeI k s).map dieS) := rfl
  have hbW : Below w.heap.size w (w.alloc (.cells #[.int .i64 12, .int .i64 (a : Int)] 41)) := (Below.refl _ _).alloc (Nat.le_refl _) _
  have HB : Hid (Below g w (w.alloc (.cells #[.int .i64 12, .int .i64 (a : Int)] 41))) := hbW.mono (Nat.le_of_lt h.lt)
  have hm := hM.out
  have T := wantedI g E at_ s a vf _ (h.keep hbW) (by rw [hm.opn]; simp) hm.lim hm.sp
  have HC0 : Hid (CI (w.alloc (.cells #[.int .i64 12, .int .i64 (a : Int)] 41)) g E at_ s vf) := h.keep hbW
  clear hbW h hm
  go_enter Tryz.func33, Tryz.ntmps33
  go_wp2_with fail
  refine T.mono ?_
  rintro e w1 ⟨hb1, ho⟩
  have HC1 : Hid (CI w1 g E at_ s vf) := HC0.out.keep hb1
  have HB1 : Hid (Below g w w1) := HB.out.trans (hb1.mono (Nat.le_of_lt HC0.out.lt))
  rcases hr : wantsS (a : Int) s with c | k
  · rw [hr] at ho
    have HR : Hid (stepS E.M own E.res 12 (a : Int) s = .error c) := by unfold Hid; rw [HS.out, hr]; rfl
    subst ho
    clear hr T hb1
    first
      | exact ⟨rfl, HB1.out, by rw [HR.out]; exact ⟨rfl, _, _, HC1.out⟩⟩
      | (go_wp2; exact ⟨rfl, HB1.out, by rw [HR.out]; exact ⟨rfl, _, _, HC1.out⟩⟩)
  rw [hr] at ho
  subst ho
  have HR1 : Hid (stepS E.M own E.res 12 (a : Int) s = (takeI k s).map dieS) := by unfold Hid; rw [HS.out, hr]; rfl
  have T2 := takeKI g E at_ s b r k vf w1 HC1.out hM.out.opn hM.out.lim hM.out.vals
  clear hr T hb1 HB HC0
  go_wp2_with fail
  refine T2.mono ?_
  rintro e w2 ⟨⟨hb2, _⟩, ho⟩
  have HB2 : Hid (Below g w w2) := HB1.out.trans hb2
  rcases hr : takeI k s with c | s1
  · rw [hr] at ho
    obtain ⟨rfl, hci⟩ := ho
    have HR : Hid (stepS E.M own E.res 12 (a : Int) s = .error c) := by unfold Hid; rw [HR1.out, hr]; rfl
    have HC : Hid (∃ s' vf', CI w2 g E at_ s' vf') := hci
    clear hr hci T2 hb2
    first
      | exact ⟨rfl, HB2.out, by rw [HR.out]; exact ⟨rfl, HC.out⟩⟩
      | (go_wp2; exact ⟨rfl, HB2.out, by rw [HR.out]; exact ⟨rfl, HC.out⟩⟩)
  · rw [hr] at ho
    obtain ⟨⟨v, rfl⟩, hci⟩ := ho
    have HR : Hid (stepS E.M own E.res 12 (a : Int) s = .ok (dieS s1)) := by unfold Hid; rw [HR1.out, hr]; rfl
    have hso := takeI_opn hr
    have T3 := dieI g E at_ s1 b r vf w2 hci (hso.1.trans hM.out.opn) ⟨by have := hM.out.lim.1; omega, by rw [hso.1]; exact hM.out.lim.2⟩ (takeI_low hr hM.out.opn hM.out.low)
    clear hr hci T2 hb2 hso
    go_wp2_with fail
    refine T3.mono ?_
    rintro e w3 ⟨rfl, hci, hb3⟩
    have HB3 : Hid (Below g w w3) := HB2.out.trans hb3
    clear T3 hb3
    go_wp2
    go_end0
    exact ⟨HB3.out, by rw [HR.out]; exact ⟨rfl, _, hci⟩⟩

/-- The kinds of good instructions. -/
theorem kinds7 {op a : Int} (h : gi op a = true) : ((op = 2 ∨ op = 3) ∨ op = 4 ∨ (op = 5 ∨ op = 11 ∨ op = 0 ∨ op = 27) ∨ op = 15 ∨ op = 12 ∨ effOps op) ∧ (op = 12 ∨ op = 13 ∨ op = 16 ∨ op = 32 ∨ op = 33 ∨ op = 34 ∨ op = 35 ∨ op = 36 → 0 ≤ a) ∧ (op = 2 ∨ op = 3 ∨ op = 4 → a = 64 ∨ (125 ≤ a ∧ a ≤ 127)) := by
  by_cases hn : op ∈ named
  · simp only [named, List.mem_cons, List.not_mem_nil, or_false] at hn
    refine ⟨?_, ?_, ?_⟩
    · unfold effOps plains
      simp only [List.mem_cons, List.not_mem_nil, or_false]
      omega
    · intro ho
      have e : shp op = 2 := by rcases ho with rfl | rfl | rfl | rfl | rfl | rfl | rfl | rfl <;> rfl
      unfold gi at h
      rw [e] at h
      simp [mayK] at h
      exact h.1
    · intro ho
      have e : shp op = 1 := by rcases ho with rfl | rfl | rfl <;> rfl
      unfold gi at h
      rw [e] at h
      simp [mayK] at h
      omega
  · have e := shp_other op hn
    have hc : counted op = true := by
      rcases hh : counted op with _ | _
      · unfold gi at h; rw [e, hh] at h; simp [mayK] at h
      · rfl
    unfold counted at hc
    simp only [Bool.or_eq_true, Bool.and_eq_true, decide_eq_true_eq] at hc
    refine ⟨?_, by omega, by omega⟩
    unfold effOps
    omega

theorem stepI (V : World) (g : Nat) (E : EnvI) (at_ : Int) (s : St) (own : List Int) (b : Blk) (r : List Blk) (op a : Int) (vf : Value) (w : World) (h : CI w g E at_ s vf) (hV : Below V.heap.size V w) (hM : Hid (Meet V g E own s b r op a)) (hg : gi op a = true) :
    Calls Tryz.prog 33 #[.pointer (some ⟨g, 0, none⟩), .agg #[.int .i64 op, .int .i64 a]] w fun e w' => OutI w g E at_ (stepS E.M own E.res op a s) e w' := by
  obtain ⟨hk, h0, _⟩ := kinds7 hg
  rcases hk with hk | hk | hk | hk | hk | hk
  · exact step_block V g E at_ s own b r op a vf w h hM hk
  · subst hk; exact step_if V g E at_ s own b r a vf w h hM
  · exact step_one V g E at_ s own b r op a vf w h hM hk
  · subst hk; exact step_ret V g E at_ s own b r a vf w h hM
  · subst hk
    obtain ⟨n, rfl⟩ : ∃ n : Nat, a = n := ⟨a.toNat, by have := h0 (by simp); omega⟩
    exact step_br V g E at_ s own b r n vf w h hM
  · exact step_eff V g E at_ s own b r op a vf w h hV hM hk (fun ho => h0 (by omega))

end Go.Proofs.YtcgnefgdfgikdaaGreat

namespace Go.Proofs.YtcgnefgdfgikdaaGreat
open Go.RowKit

/-- Blocks that may be divided no more, from the front. -/
def fl (F : List Bool) (op : Int) : Option (List Bool) :=
  match F with
  | [] => none
  | f :: T => if opens op = true then some (decide (op ≠ 4) :: f :: T) else if op = 5 ∧ f = true then none else if op = 11 then some T else some ((f || decide (op = 5)) :: T)
def goodW : List Bool → List Int → Prop
  | F, [] => F = []
  | F, op :: r => ∃ F', fl F op = some F' ∧ goodW F' r
theorem goodW_fw : ∀ (l : List Int) (i : Nat) (S : List (Bool × List Nat)) (o : Nat → Nat) (d : Nat), fw i l S o d ≠ none → goodW (S.map (·.1)) l
  | [], i, S, o, d, h => by
    unfold fw at h
    split at h
    · rename_i e; rw [e]; rfl
    · exact absurd rfl h
  | op :: r, i, [], o, d, h => by unfold fw at h; exact absurd rfl h
  | op :: r, i, (f, ins) :: T, o, d, h => by
    unfold fw at h
    unfold goodW fl
    simp only [List.map_cons]
    split at h
    · rename_i ho
      exact ⟨_, if_pos ho, by have := goodW_fw r (i + 1) _ o _ h; simpa using this⟩
    · rename_i ho
      split at h
      · exact absurd rfl h
      · rename_i h5
        split at h
        · rename_i h11
          exact ⟨_, by rw [if_neg ho, if_neg h5, if_pos h11], goodW_fw r (i + 1) T _ d h⟩
        · rename_i h11
          exact ⟨_, by rw [if_neg ho, if_neg h5, if_neg h11], by have := goodW_fw r (i + 1) _ o d h; simpa using this⟩
theorem goodW_body {L : List (Int × Int)} (h : (eo L).isSome = true) : goodW [true] (ops L) ∧ (∀ k (hk : k < L.length), gi L[k].1 L[k].2 = true) ∧ L.length ≤ 200 := by
  unfold eo at h
  split at h
  · rename_i hg
    simp only [Bool.and_eq_true, decide_eq_true_eq] at hg
    refine ⟨?_, fun k hk => allG_at L k hk hg.1, hg.2⟩
    rcases body_fw (ops L) with ⟨h1, _⟩ | ⟨o', _, h2, _⟩
    · rw [h1] at h; simp at h
    · have := goodW_fw (ops L) 0 [(true, [])] (fun _ => 0) 1 (by rw [h2]; simp)
      exact this
  · simp at h

def Par : List Bool → List Blk → Prop
  | [], [] => True
  | f :: F, b :: B => (f = false → b.op = 4 ∧ b.split = false) ∧ Par F B
  | _, _ => False
/-- The types of a module and of a func are types. -/
structure TyOk (M : Mod7) (own : List Int) (res : Int) : Prop where
  own : ∀ t ∈ own, 125 ≤ t ∧ t ≤ 127
  res : res = 64 ∨ (125 ≤ res ∧ res ≤ 127)
  fr : ∀ f ∈ M.fs, f.res = 64 ∨ (125 ≤ f.res ∧ f.res ≤ 127)
  gt : ∀ g ∈ M.gs, 125 ≤ g.ty ∧ g.ty ≤ 127
structure Inv (F : List Bool) (s : St) (k : Nat) : Prop where
  par : Par F s.opn
  fine : Fine s
  nv : s.vals.length ≤ k
  no : s.opn.length ≤ k + 1

theorem downs_up {l : List Blk} {n m : Nat} (h : downs l n) (hm : n ≤ m) : downs l m := by
  cases l with
  | nil => trivial
  | cons b r => exact ⟨Nat.le_trans h.1 hm, h.2⟩
theorem okTy_some {x : Int} (h : 125 ≤ x ∧ x ≤ 127) : okTy (some x) := fun y hy => by simp at hy; subst hy; exact h
theorem fine_take {k : Int} {s s' : St} {b : Blk} {r : List Blk} (h : takeI k s = .ok s') (hs : s.opn = b :: r) (hf : Fine s) : Fine s' := by
  obtain ⟨h1, _, _⟩ := takeI_opn h
  have hlow := hf.low
  rw [hs] at hlow
  refine ⟨takeI_ok h hf.vals, by rw [h1]; exact hf.blks, ?_, by rw [h1]; exact hf.sp⟩
  rw [h1, hs]
  exact ⟨takeI_low h hs hlow.1, hlow.2⟩
theorem takeT_low {t : Ty} {s : St} {x : Ty × St} {b : Blk} {r : List Blk} (h : takeT t s = .ok x) (hs : s.opn = b :: r) (hl : b.h ≤ s.vals.length) : b.h ≤ x.2.vals.length := by
  unfold takeT at h
  rw [hs] at h
  simp only at h
  split at h
  · split at h
    · simp at h; subst h; exact hl
    · simp at h
  · rename_i hn
    split at h
    · simp at h
    · rename_i t vs e
      split at h
      · simp at h; subst h; rw [e, List.length_cons] at hn; simp only; omega
      · simp at h
theorem fine_takeT {t : Ty} {s : St} {x : Ty × St} {b : Blk} {r : List Blk} (h : takeT t s = .ok x) (hs : s.opn = b :: r) (hf : Fine s) : Fine x.2 ∧ okTy x.1 := by
  obtain ⟨h1, _, _, h4⟩ := takeT_opn h
  have hlow := hf.low
  rw [hs] at hlow
  refine ⟨⟨(h4 hf.vals).2, by rw [h1]; exact hf.blks, ?_, by rw [h1]; exact hf.sp⟩, (h4 hf.vals).1⟩
  rw [h1, hs]
  exact ⟨takeT_low h hs hlow.1, hlow.2⟩
theorem fine_put {t : Ty} {s : St} (ht : okTy t) (hf : Fine s) : Fine (putT t s) :=
  ⟨fun x hx => by rcases List.mem_cons.1 hx with rfl | hx; exact ht; exact hf.vals x hx, hf.blks, downs_up hf.low (by simp [putT]), hf.sp⟩
theorem fine_putI {k : Int} {s : St} (hk : k = 64 ∨ (125 ≤ k ∧ k ≤ 127)) (hf : Fine s) : Fine (putI k s) := by
  unfold putI
  split
  · exact hf
  · exact fine_put (okTy_some (by omega)) hf
theorem putI_facts (k : Int) (s : St) : (putI k s).opn = s.opn ∧ (putI k s).vals.length ≤ s.vals.length + 1 := by
  unfold putI
  split
  · exact ⟨rfl, by omega⟩
  · exact ⟨rfl, by simp [putT]⟩
theorem fine_die {s : St} {b : Blk} {r : List Blk} (hs : s.opn = b :: r) (hf : Fine s) : Fine (dieS s) ∧ (dieS s).opn = { b with dead := true } :: r ∧ (dieS s).vals.length ≤ s.vals.length := by
  have hlow := hf.low
  rw [hs] at hlow
  have e : dieS s = { s with vals := s.vals.drop (s.vals.length - b.h), opn := { b with dead := true } :: r } := by unfold dieS; rw [hs]
  rw [e]
  have hb := hf.blks b (by rw [hs]; exact List.mem_cons_self ..)
  have hs4 := hf.sp b (by rw [hs]; exact List.mem_cons_self ..)
  refine ⟨⟨fun t ht => hf.vals t (List.mem_of_mem_drop ht), fun x hx => ?_, ⟨?_, hlow.2⟩, fun x hx => ?_⟩, rfl, by simp⟩
  · rcases List.mem_cons.1 hx with rfl | hx
    · exact hb
    · exact hf.blks x (by rw [hs]; exact List.mem_cons_of_mem _ hx)
  · have h1 := hlow.1
    simp; omega
  · rcases List.mem_cons.1 hx with rfl | hx
    · exact hs4
    · exact hf.sp x (by rw [hs]; exact List.mem_cons_of_mem _ hx)
theorem fine_takes (l : List Int) : ∀ {s s' : St} {b : Blk} {r : List Blk}, takes l s = .ok s' → s.opn = b :: r → Fine s → Fine s' := by
  induction l with
  | nil => intro s s' b r h _ hf; unfold takes at h; simp [List.foldlM, pure, Except.pure] at h; subst h; exact hf
  | cons x l ih =>
    intro s s' b r h hs hf
    have e : takes (x :: l) s = (takeI x s).bind fun s1 => takes l s1 := by
      unfold takes; simp only [List.foldlM]; rfl
    rw [e] at h
    rcases hr : takeI x s with c | s1
    · rw [hr] at h; simp [Except.bind] at h
    · rw [hr] at h
      simp only [Except.bind] at h
      exact ih h ((takeI_opn hr).1.trans hs) (fine_take hr hs hf)
def putOk (p : Int) : Prop := p = 64 ∨ (125 ≤ p ∧ p ≤ 127)
theorem varEff_put (op t : Int) (ht : 125 ≤ t ∧ t ≤ 127) : putOk (varEff op t).2 := by
  unfold varEff
  split
  · exact .inl rfl
  · split
    · exact .inr ht
    · exact .inr ht
theorem memEff_put (op : Int) : putOk (memEff op).2 := by
  unfold memEff
  repeat' split
  all_goals first | exact .inl rfl | exact .inr ⟨by decide, by decide⟩
theorem floatEff_put (k : Int) : putOk (floatEff k).2 := by
  unfold floatEff
  repeat' split
  all_goals exact .inr ⟨by decide, by decide⟩
theorem intEff_put (k t : Int) (ht : 125 ≤ t ∧ t ≤ 127) : 125 ≤ (intEff k t).2 ∧ (intEff k t).2 ≤ 127 := by
  unfold intEff
  split
  · exact ht
  · split
    · exact (show (125 : Int) ≤ 127 ∧ (127 : Int) ≤ 127 by decide)
    · split
      · exact (show (125 : Int) ≤ 127 ∧ (127 : Int) ≤ 127 by decide)
      · exact ht
theorem plainEff_put (op : Int) : putOk (plainEff op).2 := by
  unfold plainEff
  repeat' split
  all_goals first | exact .inl rfl | exact .inr (intEff_put _ _ ⟨by decide, by decide⟩) | exact floatEff_put _ | exact .inr ⟨by decide, by decide⟩
theorem effS_put {M : Mod7} {own : List Int} {res op a : Int} {s : St} {q : List Int × Int} (h : effS M own op a s = .ok q) (hT : TyOk M own res) (hb : ∀ b ∈ s.opn, okB b) : putOk q.2 := by
  unfold effS at h
  split at h
  · unfold wantsS at h
    split at h
    · simp [Except.map] at h
    · rename_i b hbb
      have := hb b (List.mem_of_getElem? hbb)
      split at h
      · simp [Except.map] at h; subst h; exact .inl rfl
      · simp [Except.map] at h; subst h; exact this
  · split at h
    · split at h
      · simp at h
      · rename_i f hf
        simp at h; subst h
        exact hT.fr f (List.mem_of_getElem? hf)
    · split at h
      · split at h
        · simp at h
        · rename_i t ht
          have := hT.own t (List.mem_of_getElem? ht)
          simp at h; subst h
          exact varEff_put op t this
      · split at h
        · split at h
          · simp at h
          · rename_i gg hg
            have := hT.gt gg (List.mem_of_getElem? hg)
            split at h
            · simp at h
            · simp at h; subst h
              exact varEff_put op gg.ty this
        · split at h
          · split at h
            · simp at h; subst h
              exact memEff_put op
            · simp at h
          · simp at h; subst h
            exact plainEff_put op

theorem par_cons {F : List Bool} {b : Blk} {r : List Blk} (h : Par F (b :: r)) : ∃ f T, F = f :: T ∧ (f = false → b.op = 4 ∧ b.split = false) ∧ Par T r := by
  cases F with
  | nil => exact absurd h (by simp [Par])
  | cons f T => exact ⟨f, T, rfl, h.1, h.2⟩
theorem par_top {F : List Bool} {o : List Blk} {op : Int} {F' : List Bool} (h : Par F o) (hf : fl F op = some F') : ∃ b r f T, o = b :: r ∧ F = f :: T ∧ (f = false → b.op = 4 ∧ b.split = false) ∧ Par T r := by
  cases o with
  | nil =>
    cases F with
    | nil => simp [fl] at hf
    | cons f T => exact absurd h (by simp [Par])
  | cons b r =>
    obtain ⟨f, T, rfl, h1, h2⟩ := par_cons h
    exact ⟨b, r, f, T, rfl, rfl, h1, h2⟩

theorem inv_step {M : Mod7} {own : List Int} {res op a : Int} {s s' : St} {F F' : List Bool} {k : Nat} (h : stepS M own res op a s = .ok s') (hi : Inv F s k) (hf : fl F op = some F') (hg : gi op a = true) (hT : TyOk M own res) : Inv F' s' (k + 1) := by
  obtain ⟨b, r, f, T, hs, rfl, hp1, hp2⟩ := par_top hi.par hf
  obtain ⟨hk, _, hbk⟩ := kinds7 hg
  have hnv := hi.nv
  have hno := hi.no
  have hfine := hi.fine
  have hlow := hfine.low
  rw [hs] at hlow
  have hno2 : r.length ≤ k := by rw [hs, List.length_cons] at hno; omega
  unfold fl at hf
  simp only at hf
  unfold stepS at h
  have hbeg : ∀ (o : Int) (s1 : St), (o = 2 ∨ o = 3 ∨ o = 4) → s1.opn = b :: r → Fine s1 → s1.vals.length ≤ k → (a = 64 ∨ (125 ≤ a ∧ a ≤ 127)) → Inv (decide (o ≠ 4) :: f :: T) (beginS o a s1) (k + 1) := fun o s1 ho h1 h2 h3 h4 => by
    refine ⟨?_, ⟨h2.vals, fun x hx => ?_, ⟨Nat.le_refl _, h2.low⟩, fun x hx => ?_⟩, by simp [beginS]; omega, by simp [beginS, h1]; omega⟩
    · unfold beginS
      simp only
      rw [h1]
      refine ⟨fun h0 => ⟨?_, rfl⟩, ?_⟩
      · simpa using h0
      · have := hi.par; rw [hs] at this; exact this
    · rcases List.mem_cons.1 hx with rfl | hx
      · exact h4
      · exact h2.blks x hx
    · rcases List.mem_cons.1 hx with rfl | hx
      · simp
      · exact h2.sp x hx
  have hdie : ∀ (s1 : St), op ≠ 2 → op ≠ 3 → op ≠ 4 → op ≠ 5 → op ≠ 11 → s1.opn = b :: r → Fine s1 → s1.vals.length ≤ k → Inv F' (dieS s1) (k + 1) := fun s1 n2 n3 n4 n5 n11 h1 h2 h3 => by
    obtain ⟨d1, d2, d3⟩ := fine_die h1 h2
    rw [if_neg (by unfold opens; simp [n2, n3, n4]), if_neg (by simp [n5]), if_neg n11] at hf
    simp only [Option.some.injEq] at hf
    subst hf
    refine ⟨?_, d1, by omega, by rw [d2, List.length_cons]; omega⟩
    rw [d2]
    exact ⟨fun h0 => by simp [n5] at h0; exact hp1 h0, hp2⟩
  have hput : ∀ (s1 : St), op ≠ 2 → op ≠ 3 → op ≠ 4 → op ≠ 5 → op ≠ 11 → s1.opn = b :: r → Fine s1 → s1.vals.length ≤ k + 1 → Inv F' s1 (k + 1) := fun s1 n2 n3 n4 n5 n11 h1 h2 h3 => by
    rw [if_neg (by unfold opens; simp [n2, n3, n4]), if_neg (by simp [n5]), if_neg n11] at hf
    simp only [Option.some.injEq] at hf
    subst hf
    refine ⟨?_, h2, h3, by rw [h1, List.length_cons]; omega⟩
    rw [h1]
    exact ⟨fun h0 => by simp [n5] at h0; exact hp1 h0, hp2⟩
  have hopen : ∀ o : Int, (o = 2 ∨ o = 3 ∨ o = 4) → op = o → F' = decide (o ≠ 4) :: f :: T := fun o ho he => by
    subst he
    rw [if_pos (by unfold opens; rcases ho with rfl | rfl | rfl <;> rfl)] at hf
    simpa using hf.symm
  split at h
  · rename_i ho
    simp at h; subst h
    rw [hopen op (by omega) rfl]
    exact hbeg op s (by omega) hs hfine hnv (hbk (by omega))
  split at h
  · rename_i _ ho
    subst ho
    rcases hr : takeI 127 s with c | s1
    · rw [hr] at h; simp [Except.map] at h
    · rw [hr] at h; simp [Except.map] at h; subst h
      rw [hopen 4 (by omega) rfl]
      exact hbeg 4 s1 (by omega) ((takeI_opn hr).1.trans hs) (fine_take hr hs hfine) (by have := (takeI_opn hr).2.2; omega) (hbk (by omega))
  split at h
  · rename_i _ _ ho
    subst ho
    unfold elseS at h
    rcases hr : closeS s with c | s1
    · rw [hr] at h; simp [Except.map] at h
    · rw [hr] at h
      obtain ⟨c1, c2, c3, c4⟩ := closeS_opn hs hr
      simp only [Except.map] at h
      rw [c1] at h
      simp only [Except.ok.injEq] at h
      subst h
      rw [if_neg (by unfold opens; simp)] at hf
      by_cases hft : f = true
      · rw [if_pos ⟨rfl, hft⟩] at hf; simp at hf
      · rw [if_neg (by simp [hft]), if_neg (by omega)] at hf
        simp only [Option.some.injEq] at hf
        subst hf
        have h4 := hp1 (by simpa using hft)
        have hc1 : ∃ s0, takeI b.kind s = .ok s0 ∧ s0 = s1 := by
          unfold closeS at hr
          rw [hs] at hr
          simp only at hr
          rcases ht : takeI b.kind s with c | s0
          · rw [ht] at hr; simp [Except.bind] at hr
          · rw [ht] at hr; simp only [Except.bind] at hr
            split at hr
            · simp at hr; exact ⟨s0, rfl, hr⟩
            · simp at hr
        obtain ⟨s0, ht0, rfl⟩ := hc1
        have hf1 := fine_take ht0 hs hfine
        have hl1 := takeI_low ht0 hs hlow.1
        refine ⟨⟨fun h0 => by simp at h0, hp2⟩, ⟨hf1.vals, fun x hx => ?_, ⟨hl1, hlow.2⟩, fun x hx => ?_⟩, by simp only; omega, by simp only [List.length_cons]; omega⟩
        · rcases List.mem_cons.1 hx with rfl | hx
          · exact hfine.blks b (by rw [hs]; exact List.mem_cons_self ..)
          · exact hfine.blks x (by rw [hs]; exact List.mem_cons_of_mem _ hx)
        · rcases List.mem_cons.1 hx with rfl | hx
          · exact fun _ => h4.1
          · exact hfine.sp x (by rw [hs]; exact List.mem_cons_of_mem _ hx)
  split at h
  · rename_i _ _ _ ho
    subst ho
    unfold endS at h
    rcases hr : closeS s with c | s1
    · rw [hr] at h; simp [Except.bind] at h
    · rw [hr] at h
      obtain ⟨c1, c2, c3, c4⟩ := closeS_opn hs hr
      simp only [Except.bind] at h
      rw [c1] at h
      simp only at h
      have hf1 : Fine s1 := by
        unfold closeS at hr
        rw [hs] at hr
        simp only at hr
        rcases ht : takeI b.kind s with c | s0
        · rw [ht] at hr; simp [Except.bind] at hr
        · rw [ht] at hr; simp only [Except.bind] at hr
          split at hr
          · simp at hr; subst hr; exact fine_take ht hs hfine
          · simp at hr
      have hlow1 := hf1.low
      rw [c1] at hlow1
      rw [if_neg (by unfold opens; simp), if_neg (by simp), if_pos rfl] at hf
      simp only [Option.some.injEq] at hf
      subst hf
      have hf2 : Fine { s1 with opn := r } := ⟨hf1.vals, fun x hx => hf1.blks x (by rw [c1]; exact List.mem_cons_of_mem _ hx), downs_up hlow1.2 hlow1.1, fun x hx => hf1.sp x (by rw [c1]; exact List.mem_cons_of_mem _ hx)⟩
      have hkd := hfine.blks b (by rw [hs]; exact List.mem_cons_self ..)
      split at h
      · simp at h
      · simp only [Except.ok.injEq] at h
        subst h
        split
        · exact ⟨hp2, hf2, by simp only; omega, by simp only; omega⟩
        · obtain ⟨p1, p2⟩ := putI_facts b.kind { s1 with opn := r }
          exact ⟨by rw [p1]; exact hp2, fine_putI hkd hf2, by simp only at p2; omega, by rw [p1]; simp only; omega⟩
  split at h
  · rename_i _ _ _ _ ho
    subst ho
    simp at h; subst h
    exact hdie s (by omega) (by omega) (by omega) (by omega) (by omega) hs hfine hnv
  split at h
  · rename_i _ _ _ _ _ ho
    subst ho
    rcases hr : takeI res s with c | s1
    · rw [hr] at h; simp [Except.map] at h
    · rw [hr] at h; simp [Except.map] at h; subst h
      exact hdie s1 (by omega) (by omega) (by omega) (by omega) (by omega) ((takeI_opn hr).1.trans hs) (fine_take hr hs hfine) (by have := (takeI_opn hr).2.2; omega)
  split at h
  · rename_i _ _ _ _ _ _ ho
    subst ho
    rcases hw : wantsS a s with c | kk
    · rw [hw] at h; simp [Except.bind] at h
    · rw [hw] at h
      simp only [Except.bind] at h
      rcases hr : takeI kk s with c | s1
      · rw [hr] at h; simp [Except.map] at h
      · rw [hr] at h; simp [Except.map] at h; subst h
        exact hdie s1 (by omega) (by omega) (by omega) (by omega) (by omega) ((takeI_opn hr).1.trans hs) (fine_take hr hs hfine) (by have := (takeI_opn hr).2.2; omega)
  split at h
  · rename_i _ _ _ _ _ _ _ ho
    subst ho
    unfold selS at h
    rcases hr : takeI 127 s with c | s1
    · rw [hr] at h; simp [Except.bind] at h
    · rw [hr] at h
      simp only [Except.bind] at h
      have q1 := (takeI_opn hr).1.trans hs
      have f1 := fine_take hr hs hfine
      rcases hx : takeT none s1 with c | x
      · rw [hx] at h; simp at h
      · rw [hx] at h
        simp only at h
        have q2 := (takeT_opn hx).1.trans q1
        obtain ⟨f2, ox⟩ := fine_takeT hx q1 f1
        rcases hy : takeT x.1 x.2 with c | y
        · rw [hy] at h; simp [Except.map] at h
        · rw [hy] at h; simp [Except.map] at h; subst h
          have q3 := (takeT_opn hy).1.trans q2
          obtain ⟨f3, oy⟩ := fine_takeT hy q2 f2
          refine hput _ (by omega) (by omega) (by omega) (by omega) (by omega) q3 (fine_put ?_ f3) ?_
          · cases hy1 : y.1 with
            | none => exact ox
            | some v => rw [hy1] at oy; exact oy
          · have a1 := (takeI_opn hr).2.2
            have a2 := (takeT_opn hx).2.2.1
            have a3 := (takeT_opn hy).2.2.1
            simp only [putT, List.length_cons]; omega
  · rename_i m1 m2 m3 m4 m5 m6 m7 m8
    rcases he : effS M own op a s with c | q
    · rw [he] at h; simp [Except.bind] at h
    · rw [he] at h
      simp only [Except.bind] at h
      rcases hr : takes q.1 s with c | s1
      · rw [hr] at h; simp [Except.map] at h
      · rw [hr] at h; simp [Except.map] at h; subst h
        obtain ⟨t1, t2, t3, t4⟩ := takes_opn _ hr
        obtain ⟨p1, p2⟩ := putI_facts q.2 s1
        exact hput _ (by omega) (by omega) (by omega) m3 m4 (p1.trans (t1.trans hs)) (fine_putI (effS_put he hT hfine.blks) (fine_takes _ hr hs hfine)) (by omega)

end Go.Proofs.YtcgnefgdfgikdaaGreat
