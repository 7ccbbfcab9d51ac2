/-
  FloatParts, both sides, and its law.
-/
import Derived.Test.YtnimlkobcginjaaFOpen
import Derived.BigQuiet
import Derived.OpenShut
namespace Go.Proofs.Ytnimlkobcginjaa
open Go.RowKit


theorem four_res {fn : Func} {a b c d : Tmp} (h : fn.results = #[.tmp a, .tmp b, .tmp c, .tmp d]) (tmps : Array Value) (P : Program) (w : World) :
    (results fn tmps).run P w = .ok (.tuple #[tmps.getD a undef, tmps.getD b undef, tmps.getD c undef, tmps.getD d undef]) w := by
  simp [results, h]

/-- What FloatParts answers, of a float of class c. -/
def partsOf (c : Int) (s : Bool) (m e : Int) : Value := if c = 0 then .tuple #[.bool s, .int .u64 m, .int .i64 e, .bool true] else .tuple #[.bool false, .int .u64 0, .int .i64 0, .bool false]

theorem cl_is16 (a : Int) : cl16 a = 0 ∨ cl16 a = 1 ∨ cl16 a = 2 := by unfold cl16; split <;> (try split) <;> simp

theorem cl_is32 (a : Int) : cl32 a = 0 ∨ cl32 a = 1 ∨ cl32 a = 2 := by unfold cl32; split <;> (try split) <;> simp

theorem specParts16 (a : Int) (h0 : 0 ≤ a) (h1 : a ≤ 4294967295) (w : World) :
    Calls Try.prog 75 #[.int .i64 16, .int .u32 a] w fun e w' => e = .returned (partsOf (cl16 a) (a / 32768 % 2 == 1) (vm16 a) (ve16 a)) ∧ Below w.heap.size w w' := by
  have O := open16 a h0 h1
  have C := cl_is16 a
  generalize cl16 a = c at *
  generalize (a / 32768 % 2 == 1) = s at *
  generalize vm16 a = m at *
  generalize ve16 a = e at *
  rcases C with rfl | rfl | rfl
  · go_enter Try.func75, Try.ntmps75
    go_wp2_with fail
    refine (l4Kind16 _).mono ?_
    rintro e' w1 ⟨rfl, B1⟩
    go_wp2_with fail
    refine (O _).mono ?_
    rintro e' w2 ⟨rfl, B2⟩
    clear O
    go_wp2
    go_quiet (fail)
    go_wp2
    refine bodyPost_ret (four_res Try.results75 _ _ _) rfl ⟨rfl, ?_⟩
    ((repeat (first | refine bel_alloc ?_ _ | refine bel_dN ?_ _ | refine Below.drew ?_ | refine Below.setCell ?_ (by first | (simp; done) | (simp; omega)) _)); refine bel_step ?_ B2; (repeat (first | refine bel_alloc ?_ _ | refine bel_dN ?_ _ | refine Below.drew ?_ | refine Below.setCell ?_ (by first | (simp; done) | (simp; omega)) _)); refine bel_step ?_ B1; (repeat (first | refine bel_alloc ?_ _ | refine bel_dN ?_ _ | refine Below.drew ?_ | refine Below.setCell ?_ (by first | (simp; done) | (simp; omega)) _)); exact Below.refl _ _)
  · go_enter Try.func75, Try.ntmps75
    go_wp2_with fail
    refine (l4Kind16 _).mono ?_
    rintro e' w1 ⟨rfl, B1⟩
    go_wp2_with fail
    refine (O _).mono ?_
    rintro e' w2 ⟨rfl, B2⟩
    clear O
    go_wp2
    refine bodyPost_ret (four_res Try.results75 _ _ _) rfl ⟨rfl, ?_⟩
    ((repeat (first | refine bel_alloc ?_ _ | refine bel_dN ?_ _ | refine Below.drew ?_ | refine Below.setCell ?_ (by first | (simp; done) | (simp; omega)) _)); refine bel_step ?_ B2; (repeat (first | refine bel_alloc ?_ _ | refine bel_dN ?_ _ | refine Below.drew ?_ | refine Below.setCell ?_ (by first | (simp; done) | (simp; omega)) _)); refine bel_step ?_ B1; (repeat (first | refine bel_alloc ?_ _ | refine bel_dN ?_ _ | refine Below.drew ?_ | refine Below.setCell ?_ (by first | (simp; done) | (simp; omega)) _)); exact Below.refl _ _)
  · go_enter Try.func75, Try.ntmps75
    go_wp2_with fail
    refine (l4Kind16 _).mono ?_
    rintro e' w1 ⟨rfl, B1⟩
    go_wp2_with fail
    refine (O _).mono ?_
    rintro e' w2 ⟨rfl, B2⟩
    clear O
    go_wp2
    refine bodyPost_ret (four_res Try.results75 _ _ _) rfl ⟨rfl, ?_⟩
    ((repeat (first | refine bel_alloc ?_ _ | refine bel_dN ?_ _ | refine Below.drew ?_ | refine Below.setCell ?_ (by first | (simp; done) | (simp; omega)) _)); refine bel_step ?_ B2; (repeat (first | refine bel_alloc ?_ _ | refine bel_dN ?_ _ | refine Below.drew ?_ | refine Below.setCell ?_ (by first | (simp; done) | (simp; omega)) _)); refine bel_step ?_ B1; (repeat (first | refine bel_alloc ?_ _ | refine bel_dN ?_ _ | refine Below.drew ?_ | refine Below.setCell ?_ (by first | (simp; done) | (simp; omega)) _)); exact Below.refl _ _)

theorem specParts32 (a : Int) (h0 : 0 ≤ a) (h1 : a ≤ 4294967295) (w : World) :
    Calls Try.prog 75 #[.int .i64 32, .int .u32 a] w fun e w' => e = .returned (partsOf (cl32 a) (a / 2147483648 % 2 == 1) (vm32 a) (ve32 a)) ∧ Below w.heap.size w w' := by
  have O := open32 a h0 h1
  have C := cl_is32 a
  generalize cl32 a = c at *
  generalize (a / 2147483648 % 2 == 1) = s at *
  generalize vm32 a = m at *
  generalize ve32 a = e at *
  rcases C with rfl | rfl | rfl
  · go_enter Try.func75, Try.ntmps75
    go_wp2_with fail
    refine (l4Kind32 _).mono ?_
    rintro e' w1 ⟨rfl, B1⟩
    go_wp2_with fail
    refine (O _).mono ?_
    rintro e' w2 ⟨rfl, B2⟩
    clear O
    go_wp2
    go_quiet (fail)
    go_wp2
    refine bodyPost_ret (four_res Try.results75 _ _ _) rfl ⟨rfl, ?_⟩
    ((repeat (first | refine bel_alloc ?_ _ | refine bel_dN ?_ _ | refine Below.drew ?_ | refine Below.setCell ?_ (by first | (simp; done) | (simp; omega)) _)); refine bel_step ?_ B2; (repeat (first | refine bel_alloc ?_ _ | refine bel_dN ?_ _ | refine Below.drew ?_ | refine Below.setCell ?_ (by first | (simp; done) | (simp; omega)) _)); refine bel_step ?_ B1; (repeat (first | refine bel_alloc ?_ _ | refine bel_dN ?_ _ | refine Below.drew ?_ | refine Below.setCell ?_ (by first | (simp; done) | (simp; omega)) _)); exact Below.refl _ _)
  · go_enter Try.func75, Try.ntmps75
    go_wp2_with fail
    refine (l4Kind32 _).mono ?_
    rintro e' w1 ⟨rfl, B1⟩
    go_wp2_with fail
    refine (O _).mono ?_
    rintro e' w2 ⟨rfl, B2⟩
    clear O
    go_wp2
    refine bodyPost_ret (four_res Try.results75 _ _ _) rfl ⟨rfl, ?_⟩
    ((repeat (first | refine bel_alloc ?_ _ | refine bel_dN ?_ _ | refine Below.drew ?_ | refine Below.setCell ?_ (by first | (simp; done) | (simp; omega)) _)); refine bel_step ?_ B2; (repeat (first | refine bel_alloc ?_ _ | refine bel_dN ?_ _ | refine Below.drew ?_ | refine Below.setCell ?_ (by first | (simp; done) | (simp; omega)) _)); refine bel_step ?_ B1; (repeat (first | refine bel_alloc ?_ _ | refine bel_dN ?_ _ | refine Below.drew ?_ | refine Below.setCell ?_ (by first | (simp; done) | (simp; omega)) _)); exact Below.refl _ _)
  · go_enter Try.func75, Try.ntmps75
    go_wp2_with fail
    refine (l4Kind32 _).mono ?_
    rintro e' w1 ⟨rfl, B1⟩
    go_wp2_with fail
    refine (O _).mono ?_
    rintro e' w2 ⟨rfl, B2⟩
    clear O
    go_wp2
    refine bodyPost_ret (four_res Try.results75 _ _ _) rfl ⟨rfl, ?_⟩
    ((repeat (first | refine bel_alloc ?_ _ | refine bel_dN ?_ _ | refine Below.drew ?_ | refine Below.setCell ?_ (by first | (simp; done) | (simp; omega)) _)); refine bel_step ?_ B2; (repeat (first | refine bel_alloc ?_ _ | refine bel_dN ?_ _ | refine Below.drew ?_ | refine Below.setCell ?_ (by first | (simp; done) | (simp; omega)) _)); refine bel_step ?_ B1; (repeat (first | refine bel_alloc ?_ _ | refine bel_dN ?_ _ | refine Below.drew ?_ | refine Below.setCell ?_ (by first | (simp; done) | (simp; omega)) _)); exact Below.refl _ _)

theorem implParts16 (a : Int) (h0 : 0 ≤ a) (h1 : a ≤ 4294967295) (w : World) :
    Calls Try.prog 44 #[.int .i64 16, .int .u32 a] w fun e w' => e = .returned (partsOf (cl16 a) (a / 32768 % 2 == 1) (vm16 a) (ve16 a)) ∧ Below w.heap.size w w' := by
  have O := value16 a h0 h1
  have C := cl_is16 a
  generalize cl16 a = c at *
  generalize (a / 32768 % 2 == 1) = s at *
  generalize vm16 a = m at *
  generalize ve16 a = e at *
  by_cases hc : c = 0
  · subst hc
    go_enter Try.func44, Try.ntmps44
    go_wp2_with fail
    refine (form16 _).mono ?_
    rintro e' w1 ⟨rfl, B1⟩
    go_wp2_with fail
    refine (O _).mono ?_
    rintro e' w2 ⟨rfl, B2⟩
    clear O
    go_wp2
    go_quiet (fail)
    go_wp2
    refine bodyPost_ret (four_res Try.results44 _ _ _) rfl ⟨rfl, ?_⟩
    ((repeat (first | refine bel_alloc ?_ _ | refine bel_dN ?_ _ | refine Below.drew ?_ | refine Below.setCell ?_ (by first | (simp; done) | (simp; omega)) _)); refine bel_step ?_ B2; (repeat (first | refine bel_alloc ?_ _ | refine bel_dN ?_ _ | refine Below.drew ?_ | refine Below.setCell ?_ (by first | (simp; done) | (simp; omega)) _)); refine bel_step ?_ B1; (repeat (first | refine bel_alloc ?_ _ | refine bel_dN ?_ _ | refine Below.drew ?_ | refine Below.setCell ?_ (by first | (simp; done) | (simp; omega)) _)); exact Below.refl _ _)
  · have hp : partsOf c s m e = .tuple #[.bool false, .int .u64 0, .int .i64 0, .bool false] := by unfold partsOf; rw [if_neg hc]
    have k1 : (c != 0) = true := by simp [hc]
    rw [hp]
    clear hp hc
    go_enter Try.func44, Try.ntmps44
    go_wp2_with fail
    refine (form16 _).mono ?_
    rintro e' w1 ⟨rfl, B1⟩
    go_wp2_with fail
    refine (O _).mono ?_
    rintro e' w2 ⟨rfl, B2⟩
    clear O
    go_wp2
    refine bodyPost_ret (four_res Try.results44 _ _ _) rfl ⟨rfl, ?_⟩
    ((repeat (first | refine bel_alloc ?_ _ | refine bel_dN ?_ _ | refine Below.drew ?_ | refine Below.setCell ?_ (by first | (simp; done) | (simp; omega)) _)); refine bel_step ?_ B2; (repeat (first | refine bel_alloc ?_ _ | refine bel_dN ?_ _ | refine Below.drew ?_ | refine Below.setCell ?_ (by first | (simp; done) | (simp; omega)) _)); refine bel_step ?_ B1; (repeat (first | refine bel_alloc ?_ _ | refine bel_dN ?_ _ | refine Below.drew ?_ | refine Below.setCell ?_ (by first | (simp; done) | (simp; omega)) _)); exact Below.refl _ _)

theorem implParts32 (a : Int) (h0 : 0 ≤ a) (h1 : a ≤ 4294967295) (w : World) :
    Calls Try.prog 44 #[.int .i64 32, .int .u32 a] w fun e w' => e = .returned (partsOf (cl32 a) (a / 2147483648 % 2 == 1) (vm32 a) (ve32 a)) ∧ Below w.heap.size w w' := by
  have O := value32 a h0 h1
  have C := cl_is32 a
  generalize cl32 a = c at *
  generalize (a / 2147483648 % 2 == 1) = s at *
  generalize vm32 a = m at *
  generalize ve32 a = e at *
  by_cases hc : c = 0
  · subst hc
    go_enter Try.func44, Try.ntmps44
    go_wp2_with fail
    refine (form32 _).mono ?_
    rintro e' w1 ⟨rfl, B1⟩
    go_wp2_with fail
    refine (O _).mono ?_
    rintro e' w2 ⟨rfl, B2⟩
    clear O
    go_wp2
    go_quiet (fail)
    go_wp2
    refine bodyPost_ret (four_res Try.results44 _ _ _) rfl ⟨rfl, ?_⟩
    ((repeat (first | refine bel_alloc ?_ _ | refine bel_dN ?_ _ | refine Below.drew ?_ | refine Below.setCell ?_ (by first | (simp; done) | (simp; omega)) _)); refine bel_step ?_ B2; (repeat (first | refine bel_alloc ?_ _ | refine bel_dN ?_ _ | refine Below.drew ?_ | refine Below.setCell ?_ (by first | (simp; done) | (simp; omega)) _)); refine bel_step ?_ B1; (repeat (first | refine bel_alloc ?_ _ | refine bel_dN ?_ _ | refine Below.drew ?_ | refine Below.setCell ?_ (by first | (simp; done) | (simp; omega)) _)); exact Below.refl _ _)
  · have hp : partsOf c s m e = .tuple #[.bool false, .int .u64 0, .int .i64 0, .bool false] := by unfold partsOf; rw [if_neg hc]
    have k1 : (c != 0) = true := by simp [hc]
    rw [hp]
    clear hp hc
    go_enter Try.func44, Try.ntmps44
    go_wp2_with fail
    refine (form32 _).mono ?_
    rintro e' w1 ⟨rfl, B1⟩
    go_wp2_with fail
    refine (O _).mono ?_
    rintro e' w2 ⟨rfl, B2⟩
    clear O
    go_wp2
    refine bodyPost_ret (four_res Try.results44 _ _ _) rfl ⟨rfl, ?_⟩
    ((repeat (first | refine bel_alloc ?_ _ | refine bel_dN ?_ _ | refine Below.drew ?_ | refine Below.setCell ?_ (by first | (simp; done) | (simp; omega)) _)); refine bel_step ?_ B2; (repeat (first | refine bel_alloc ?_ _ | refine bel_dN ?_ _ | refine Below.drew ?_ | refine Below.setCell ?_ (by first | (simp; done) | (simp; omega)) _)); refine bel_step ?_ B1; (repeat (first | refine bel_alloc ?_ _ | refine bel_dN ?_ _ | refine Below.drew ?_ | refine Below.setCell ?_ (by first | (simp; done) | (simp; omega)) _)); exact Below.refl _ _)

theorem specPartsNo (kind a : Int) (h1 : kind ≠ 16) (h2 : kind ≠ 32) (w : World) :
    Calls Try.prog 75 #[.int .i64 kind, .int .u32 a] w fun e w' => e = .returned (.tuple #[.bool false, .int .u64 0, .int .i64 0, .bool false]) ∧ Below w.heap.size w w' := by
  go_enter Try.func75, Try.ntmps75
  go_wp2_with fail
  refine (l4KindNo kind h1 h2 _).mono ?_
  rintro e' w1 ⟨rfl, B1⟩
  go_wp2
  refine bodyPost_ret (four_res Try.results75 _ _ _) rfl ⟨rfl, ?_⟩
  ((repeat (first | refine bel_alloc ?_ _ | refine bel_dN ?_ _ | refine Below.drew ?_ | refine Below.setCell ?_ (by first | (simp; done) | (simp; omega)) _)); refine bel_step ?_ B1; (repeat (first | refine bel_alloc ?_ _ | refine bel_dN ?_ _ | refine Below.drew ?_ | refine Below.setCell ?_ (by first | (simp; done) | (simp; omega)) _)); exact Below.refl _ _)

theorem implPartsNo (kind a : Int) (h1 : kind ≠ 16) (h2 : kind ≠ 32) (w : World) :
    Calls Try.prog 44 #[.int .i64 kind, .int .u32 a] w fun e w' => e = .returned (.tuple #[.bool false, .int .u64 0, .int .i64 0, .bool false]) ∧ Below w.heap.size w w' := by
  go_enter Try.func44, Try.ntmps44
  go_wp2_with fail
  refine (formNo kind h1 h2 _).mono ?_
  rintro e' w1 ⟨rfl, B1⟩
  go_wp2
  refine bodyPost_ret (four_res Try.results44 _ _ _) rfl ⟨rfl, ?_⟩
  ((repeat (first | refine bel_alloc ?_ _ | refine bel_dN ?_ _ | refine Below.drew ?_ | refine Below.setCell ?_ (by first | (simp; done) | (simp; omega)) _)); refine bel_step ?_ B1; (repeat (first | refine bel_alloc ?_ _ | refine bel_dN ?_ _ | refine Below.drew ?_ | refine Below.setCell ?_ (by first | (simp; done) | (simp; omega)) _)); exact Below.refl _ _)

theorem partsBoth (kind a : Int) (h0 : 0 ≤ a) (h1 : a ≤ 4294967295) : ∃ (b : Bool) (m e : Int) (ok : Bool),
    (∀ w, Calls Try.prog 75 #[.int .i64 kind, .int .u32 a] w fun x w' => x = .returned (.tuple #[.bool b, .int .u64 m, .int .i64 e, .bool ok]) ∧ Below w.heap.size w w') ∧
    (∀ w, Calls Try.prog 44 #[.int .i64 kind, .int .u32 a] w fun x w' => x = .returned (.tuple #[.bool b, .int .u64 m, .int .i64 e, .bool ok]) ∧ Below w.heap.size w w') := by
  by_cases hk : kind = 16
  · subst hk
    have S := specParts16 a h0 h1
    have I := implParts16 a h0 h1
    unfold partsOf at S I
    by_cases hc : cl16 a = 0
    · simp only [hc, if_true] at S I
      exact ⟨_, _, _, _, S, I⟩
    · simp only [hc, if_false] at S I
      exact ⟨_, _, _, _, S, I⟩
  · by_cases hk2 : kind = 32
    · subst hk2
      have S := specParts32 a h0 h1
      have I := implParts32 a h0 h1
      unfold partsOf at S I
      by_cases hc : cl32 a = 0
      · simp only [hc, if_true] at S I
        exact ⟨_, _, _, _, S, I⟩
      · simp only [hc, if_false] at S I
        exact ⟨_, _, _, _, S, I⟩
    · exact ⟨_, _, _, _, specPartsNo kind a hk hk2, implPartsNo kind a hk hk2⟩

end Go.Proofs.Ytnimlkobcginjaa
