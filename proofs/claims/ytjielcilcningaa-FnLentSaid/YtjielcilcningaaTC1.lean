/-
  Plain: what is put is found, what is dropped is not, what is lent is neither dropped nor moved until it is given back.
-/
import Derived.Test.YtjielcilcningaaTB26
import Derived.Test.YtjielcilcningaaTB23
import Derived.Test.YtjielcilcningaaTB22
namespace Go.Proofs.Ytjielcilcningaa

theorem good_set_new {S : List Hd} {F0 : List Int} {k : Nat} {h : Hd} (hG : GoodT S (F0 ++ [(k : Int)])) (_hk : k < S.length) (ho : okH h = true) : GoodT (S.set k h) F0 ∧ (k : Int) ∉ F0 := by
  obtain ⟨h1, h2, h3, h4⟩ := hG
  have hn : (k : Int) ∉ F0 := fun hm => (List.nodup_append.mp h2).2.2 _ hm _ (by simp) rfl
  refine ⟨⟨by simpa using h1, (List.nodup_append.mp h2).1, fun x hx => by have := h3 x (by simp [hx]); simpa using this, fun j hj => ?_⟩, hn⟩
  have hj2 : j < S.length := by simpa using hj
  by_cases hjk : k = j
  · subst hjk
    exact ⟨fun hm => absurd hm hn, fun _ => by simpa using ho⟩
  · rw [List.getElem_set_ne hjk]
    have h5 := h4 j hj2
    exact ⟨fun hm => h5.1 (by simp [hm]), fun hm => h5.2 (by simp [hm]; omega)⟩
theorem good_add {S : List Hd} {h : Hd} (hG : GoodT S []) (h40 : S.length ≠ 40) (ho : okH h = true) : GoodT (S ++ [h]) [] := by
  refine ⟨by have := hG.1; simp; omega, by simp, by simp, fun j hj => ⟨by simp, fun _ => ?_⟩⟩
  by_cases e : j < S.length
  · rw [List.getElem_append_left e]
    exact (hG.2.2.2 j e).2 (by simp)
  · have e2 : j = S.length := by simp at hj; omega
    subst e2
    simpa using ho
theorem okH_lend {f : Hd} {x : Int} (h : okH f = true) (h0 : 0 ≤ x) (h1 : x ≤ 1000) : okH (lendH f x) = true := by
  show okH ⟨f.u, f.r, f.p, f.o, x, f.s⟩ = true
  unfold okH inB at h ⊢
  simp only [Bool.and_eq_true, decide_eq_true_eq] at h ⊢
  exact ⟨⟨⟨h.1.1.1, h0, h1⟩, h.1.2⟩, h.2⟩
theorem good_used {S : List Hd} {F : List Int} (hG : GoodT S F) {k : Nat} (hk : k < S.length) (hu : S[k].u = true) : (k : Int) ∉ F ∧ okH S[k] = true := by
  have h1 := (hG.used k hk).mp hu
  exact ⟨h1, (hG.2.2.2 k hk).2 h1⟩
theorem good_set_used {S : List Hd} {F : List Int} {k : Nat} {h : Hd} (hG : GoodT S F) (_hk : k < S.length) (hm : (k : Int) ∉ F) (ho : okH h = true) : GoodT (S.set k h) F := by
  obtain ⟨h1, h2, h3, h4⟩ := hG
  refine ⟨by simpa using h1, h2, fun x hx => by simpa using h3 x hx, fun j hj => ?_⟩
  have hj2 : j < S.length := by simpa using hj
  by_cases hjk : k = j
  · subst hjk
    exact ⟨fun h => absurd h hm, fun _ => by simpa using ho⟩
  · rw [List.getElem_set_ne hjk]
    exact h4 j hj2
theorem good_out {S : List Hd} {F : List Int} {k : Nat} (hG : GoodT S F) (hk : k < S.length) (hm : (k : Int) ∉ F) : GoodT (S.set k zH) (F ++ [(k : Int)]) := by
  obtain ⟨h1, h2, h3, h4⟩ := hG
  refine ⟨by simpa using h1, List.nodup_append.mpr ⟨h2, by simp, fun a ha b hb => by simp at hb; subst hb; exact fun e => hm (e ▸ ha)⟩, fun x hx => ?_, fun j hj => ?_⟩
  · rw [List.mem_append] at hx
    rcases hx with hx | hx
    · simpa using h3 x hx
    · simp at hx; subst hx; simp; omega
  · have hj2 : j < S.length := by simpa using hj
    by_cases hjk : k = j
    · subst hjk
      exact ⟨fun _ => by rw [List.getElem_set_self]; rfl, fun h => absurd (by simp) h⟩
    · rw [List.getElem_set_ne hjk]
      have h5 := h4 j hj2
      exact ⟨fun h => h5.1 (by simp at h; rcases h with h | h; exact h; omega), fun h => h5.2 (fun h' => h (by simp [h']))⟩
def one (b : Bool) : Nat := if b then 1 else 0
theorem cnt_set {S : List Hd} {res : Int} {k : Nat} {h f : Hd} (hk : k < S.length) (hf : S[k] = f) : ∀ n, n ≤ S.length → cntTo (S.set k h) res n + (if k < n then one (cntU res f) else 0) = cntTo S res n + (if k < n then one (cntU res h) else 0)
  | 0, _ => by simp [cntTo]
  | n + 1, hn => by
    have ih := cnt_set (res := res) (h := h) hk hf n (by omega)
    have e1 := cntTo_more (S := S.set k h) (res := res) (k := n) (by simp; omega) rfl rfl
    have e2 := cntTo_more (S := S) (res := res) (k := n) (by omega) rfl rfl
    rw [e1, e2]
    by_cases hkn : k = n
    · subst hkn
      rw [List.getElem_set_self, hf]
      simp at ih
      simp [one] at ih ⊢
      omega
    · rw [List.getElem_set_ne hkn]
      by_cases hlt : k < n
      · simp only [hlt, if_true, show k < n + 1 from by omega] at ih ⊢
        omega
      · have h3 : ¬ k < n + 1 := by omega
        simp only [hlt, h3, if_false] at ih ⊢
        omega
theorem cnt_app {S : List Hd} {res : Int} {h : Hd} : ∀ n, n ≤ S.length → cntTo (S ++ [h]) res n = cntTo S res n
  | 0, _ => rfl
  | n + 1, hn => by
    have e1 := cntTo_more (S := S ++ [h]) (res := res) (k := n) (by simp; omega) rfl rfl
    have e2 := cntTo_more (S := S) (res := res) (k := n) (by omega) rfl rfl
    rw [e1, e2, cnt_app n (by omega), List.getElem_append_left (by omega)]
/-- What is put. -/
structure PutAt (S1 : List Hd) (F1 : List Int) (h : Hd) (k : Nat) : Prop where
  lt : k < S1.length
  good : GoodT S1 F1
  out : (k : Int) ∉ F1
  val : S1[k] = h
  used : h.u = true
  res : 0 ≤ h.r ∧ h.r ≤ 9
  lends : h.l = 0
  ok : okH h = true
theorem new_put {S : List Hd} {F : List Int} {h : Hd} {S1 : List Hd} {F1 : List Int} {N1 C1 : Int} (hf : NewR S F h S1 F1 N1 C1) (h0 : C1 = 0) :
    ∃ k : Nat, N1 = (k : Int) ∧ PutAt S1 F1 h k ∧ GoodT S F ∧ cntTo S1 (-1) S1.length = cntTo S (-1) S.length + 1 := by
  rcases hf with ⟨_, _, _, _, h1⟩ | ⟨_, _, _, _, _, h1⟩ | ⟨_, _, _, _, _, _, h1⟩ | ⟨hG, ho, hl, ⟨F0, k, hk, rfl, rfl, rfl, rfl, _⟩ | ⟨_, _, _, _, _, h1⟩ | ⟨rfl, h40, rfl, rfl, rfl, _⟩⟩
  · omega
  · omega
  · omega
  · obtain ⟨g1, g2⟩ := good_set_new hG hk ho
    have hu := okH_u ho
    have hlt : k < (S.set k h).length := by simpa using hk
    refine ⟨k, rfl, ⟨hlt, g1, g2, List.getElem_set_self _, hu, (okH_parts ho).1, hl, ho⟩, hG, ?_⟩
    have hc := cnt_set (res := -1) (h := h) hk rfl S.length (Nat.le_refl _)
    have hz := isZ_eq ((hG.2.2.2 k hk).1 (by simp))
    rw [hz] at hc
    simp only [hk, if_true] at hc
    have e1 : one (cntU (-1) zH) = 0 := by decide
    have e2 : one (cntU (-1) h) = 1 := by simp [one, cntU, hu]
    rw [e1, e2] at hc
    rw [List.length_set]
    omega
  · omega
  · have hu := okH_u ho
    have hlt : S.length < (S ++ [h]).length := by simp
    have hv : (S ++ [h])[S.length] = h := by simp
    refine ⟨S.length, rfl, ⟨hlt, good_add hG h40 ho, by simp, hv, hu, (okH_parts ho).1, hl, ho⟩, hG, ?_⟩
    have e1 := cntTo_more (S := S ++ [h]) (res := -1) (k := S.length) (by simp) rfl rfl
    have e2 := cnt_app (S := S) (h := h) (res := -1) S.length (Nat.le_refl _)
    rw [show (S ++ [h]).length = S.length + 1 from by simp, e1, e2]
    simp [cntU, hu]
theorem new_not {S : List Hd} {F : List Int} {h : Hd} {S1 : List Hd} {F1 : List Int} {N1 C1 : Int} (hf : NewR S F h S1 F1 N1 C1) (h0 : C1 ≠ 0) : C1 = 1 ∨ (C1 = 5 ∧ S1 = S ∧ F1 = F) := by
  rcases hf with ⟨_, _, _, _, h1⟩ | ⟨_, _, _, _, _, h1⟩ | ⟨_, _, _, _, _, _, h1⟩ | ⟨hG, ho, hl, ⟨F0, k, hk, rfl, rfl, rfl, rfl, h1⟩ | ⟨rfl, _, rfl, rfl, _, h1⟩ | ⟨rfl, h40, rfl, rfl, rfl, h1⟩⟩
  · exact .inl h1
  · exact .inl h1
  · exact .inl h1
  · exact absurd h1 h0
  · exact .inr ⟨h1, rfl, rfl⟩
  · exact absurd h1 h0
theorem put_find {S1 : List Hd} {F1 : List Int} {h : Hd} {k : Nat} (p : PutAt S1 F1 h k) : FindR S1 F1 (k : Int) h.r h 0 :=
  .inl ⟨p.good, .inr ⟨k, h, p.lt, rfl, p.val, .inr (.inr ⟨p.used, rfl, rfl, rfl⟩)⟩⟩
theorem put_other {S1 : List Hd} {F1 : List Int} {h : Hd} {k : Nat} (p : PutAt S1 F1 h k) {r : Int} (hr : h.r ≠ r) : FindR S1 F1 (k : Int) r zH 3 :=
  .inl ⟨p.good, .inr ⟨k, h, p.lt, rfl, p.val, .inr (.inl ⟨p.used, hr, rfl, rfl⟩)⟩⟩
theorem put_drop {S1 : List Hd} {F1 : List Int} {h : Hd} {k : Nat} (p : PutAt S1 F1 h k) : OutR false S1 F1 (k : Int) h.r (S1.set k zH) (F1 ++ [(k : Int)]) h 0 :=
  .inr ⟨p.good, h, 0, .inr ⟨k, h, p.lt, rfl, p.val, .inr (.inr ⟨p.used, rfl, rfl, rfl⟩)⟩, .inr (.inr (.inr ⟨rfl, rfl, p.lends, rfl, rfl, k, p.lt, rfl, p.val, p.out, rfl, rfl⟩))⟩
theorem put_gone {S1 : List Hd} {F1 : List Int} {h : Hd} {k : Nat} (p : PutAt S1 F1 h k) (r : Int) : FindR (S1.set k zH) (F1 ++ [(k : Int)]) (k : Int) r zH 2 :=
  .inl ⟨good_out p.good p.lt p.out, .inr ⟨k, zH, by simpa using p.lt, rfl, by simp, .inl ⟨rfl, rfl, rfl⟩⟩⟩
theorem put_again {S1 : List Hd} {F1 : List Int} {h : Hd} {k : Nat} (p : PutAt S1 F1 h k) : NewR (S1.set k zH) (F1 ++ [(k : Int)]) h ((S1.set k zH).set k h) F1 (k : Int) 0 :=
  .inr (.inr (.inr ⟨good_out p.good p.lt p.out, p.ok, p.lends, .inl ⟨F1, k, by simpa using p.lt, rfl, rfl, rfl, rfl, rfl⟩⟩))
/-- What is lent. -/
structure LentAt (S : List Hd) (F : List Int) (h : Hd) (k : Nat) : Prop where
  lt : k < S.length
  good : GoodT S F
  out : (k : Int) ∉ F
  val : S[k] = h
  used : h.u = true
  ok : okH h = true
  lends : 0 ≤ h.l ∧ h.l < 1000
theorem lend_at {S : List Hd} {F : List Int} {x res : Int} {S1 : List Hd} {F1 : List Int} {H1 : Hd} {C1 : Int} (hf : LendR S F x res S1 F1 H1 C1) (h0 : C1 = 0) :
    ∃ k : Nat, x = (k : Int) ∧ LentAt S F H1 k ∧ res = H1.r ∧ S1 = S.set k (lendH H1 (H1.l + 1)) ∧ F1 = F := by
  rcases hf with ⟨_, _, _, _, h1⟩ | ⟨hG, rfl, H0, C0, hf, ⟨h1, _, _, h2⟩ | ⟨_, _, _, _, h2⟩ | ⟨rfl, hl, rfl, _, k, hk, rfl, hv, rfl⟩⟩
  · omega
  · omega
  · omega
  · obtain ⟨k', hk', e1, e2, hu⟩ := find_ok hf
    obtain rfl : k = k' := by omega
    have g1 := good_used hG hk (hv ▸ hu)
    have g2 := good_lends hG k hk
    have hr : res = H1.r := by
      rcases hf with ⟨h, _⟩ | ⟨k2, f, hk2, e3, e4, ⟨_, _, h⟩ | ⟨_, _, _, h⟩ | ⟨_, h, rfl, _⟩⟩
      · exact absurd (by omega) h
      · omega
      · omega
      · exact h.symm
    rw [hv] at g1 g2
    exact ⟨k, rfl, ⟨hk, hG, g1.1, hv, hu, g1.2, by omega, by omega⟩, hr, rfl, rfl⟩
theorem lend_not {S : List Hd} {F : List Int} {x res : Int} {S1 : List Hd} {F1 : List Int} {H1 : Hd} {C1 : Int} (hf : LendR S F x res S1 F1 H1 C1) (h0 : C1 ≠ 0) : H1 = zH := by
  rcases hf with ⟨_, _, _, h, h1⟩ | ⟨hG, rfl, H0, C0, hf, ⟨h1, _, h, h2⟩ | ⟨_, _, _, h, h2⟩ | ⟨rfl, hl, rfl, h, _⟩⟩
  · exact h
  · exact h
  · exact h
  · exact absurd h h0
theorem lent_good {S : List Hd} {F : List Int} {h : Hd} {k : Nat} (p : LentAt S F h k) : GoodT (S.set k (lendH h (h.l + 1))) F :=
  good_set_used p.good p.lt p.out (okH_lend p.ok (by have := p.lends; omega) (by have := p.lends; omega))
theorem lent_find {S : List Hd} {F : List Int} {h : Hd} {k : Nat} (p : LentAt S F h k) : FindIs (S.set k (lendH h (h.l + 1))) (k : Int) h.r (lendH h (h.l + 1)) 0 :=
  have hlt : k < (S.set k (lendH h (h.l + 1))).length := by simpa using p.lt
  have hv : (S.set k (lendH h (h.l + 1)))[k] = lendH h (h.l + 1) := List.getElem_set_self _
  .inr ⟨k, lendH h (h.l + 1), hlt, rfl, hv, .inr (.inr ⟨p.used, rfl, rfl, rfl⟩)⟩
theorem lent_drop {S : List Hd} {F : List Int} {h : Hd} {k : Nat} (p : LentAt S F h k) : OutR false (S.set k (lendH h (h.l + 1))) F (k : Int) h.r (S.set k (lendH h (h.l + 1))) F zH 4 :=
  .inr ⟨lent_good p, _, 0, lent_find p, .inr (.inr (.inl ⟨rfl, rfl, by have := p.lends; simp only [lendH]; omega, rfl, rfl, rfl, rfl⟩))⟩
theorem lent_move {S : List Hd} {F : List Int} {h : Hd} {k : Nat} (p : LentAt S F h k) : OutR true (S.set k (lendH h (h.l + 1))) F (k : Int) h.r (S.set k (lendH h (h.l + 1))) F zH (if h.o = true then 4 else 6) := by
  refine .inr ⟨lent_good p, _, 0, lent_find p, ?_⟩
  rcases ho : h.o with _ | _
  · exact .inr (.inl ⟨rfl, ⟨rfl, ho⟩, rfl, rfl, rfl, rfl⟩)
  · exact .inr (.inr (.inl ⟨rfl, by simp [lendH, ho], by have := p.lends; simp only [lendH]; omega, rfl, rfl, rfl, rfl⟩))
theorem lent_back {S : List Hd} {F : List Int} {h : Hd} {k : Nat} (p : LentAt S F h k) : RetR (S.set k (lendH h (h.l + 1))) F (k : Int) S F 0 := by
  have hlt : k < (S.set k (lendH h (h.l + 1))).length := by simpa using p.lt
  have hv : (S.set k (lendH h (h.l + 1)))[k] = lendH h (h.l + 1) := List.getElem_set_self _
  have e : lendH (lendH h (h.l + 1)) ((lendH h (h.l + 1)).l - 1) = h := by
    simp only [lendH]
    rw [show h.l + 1 - 1 = h.l by omega]
  have hl : (lendH h (h.l + 1)).l ≠ 0 := by have := p.lends; simp only [lendH]; omega
  have hS : S = (S.set k (lendH h (h.l + 1))).set k (lendH (lendH h (h.l + 1)) ((lendH h (h.l + 1)).l - 1)) := by
    rw [e, List.set_set, ← p.val, List.set_getElem_self]
  exact .inr ⟨lent_good p, rfl, lendH h (h.l + 1), 0, .inr ⟨k, _, hlt, rfl, hv, .inr ⟨p.used, rfl, rfl⟩⟩, .inr (.inr ⟨rfl, hl, rfl, k, hlt, rfl, hv, p.used, hS⟩)⟩
theorem lent_out {S : List Hd} {F : List Int} {h : Hd} {k : Nat} (p : LentAt S F h k) (hl : 0 < h.l) : OutR false S F (k : Int) h.r S F zH 4 :=
  .inr ⟨p.good, h, 0, .inr ⟨k, h, p.lt, rfl, p.val, .inr (.inr ⟨p.used, rfl, rfl, rfl⟩)⟩, .inr (.inr (.inl ⟨rfl, rfl, by omega, rfl, rfl, rfl, rfl⟩))⟩
theorem lent_gone {S : List Hd} {F : List Int} {h : Hd} {k : Nat} (p : LentAt S F h k) (hl : h.l = 0) : OutR false S F (k : Int) h.r (S.set k zH) (F ++ [(k : Int)]) h 0 ∧ GoodT (S.set k zH) (F ++ [(k : Int)]) :=
  ⟨.inr ⟨p.good, h, 0, .inr ⟨k, h, p.lt, rfl, p.val, .inr (.inr ⟨p.used, rfl, rfl, rfl⟩)⟩, .inr (.inr (.inr ⟨rfl, rfl, hl, rfl, rfl, k, p.lt, rfl, p.val, p.out, rfl, rfl⟩))⟩, good_out p.good p.lt p.out⟩

end Go.Proofs.Ytjielcilcningaa
