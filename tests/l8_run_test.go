package tests

import (
	"math/rand"
	"slices"
	"strings"
	"testing"

	"loop.example/g00209/impl"
)

// The constants are told in the document by their numbers.
func TestRunConstants(t *testing.T) {
	if impl.MaxFuel != 5000 || impl.MaxCalls != 20 {
		t.Error("limits:", impl.MaxFuel, impl.MaxCalls)
	}
	for i, code := range []int{impl.RunOk, impl.RunBad, impl.RunStuck, impl.RunFuel, impl.RunTrap} {
		if code != i {
			t.Errorf("code %d of the document's list is %d", i, code)
		}
	}
	traps := []int{impl.TrapUnreachable, impl.TrapDivision, impl.TrapRange, impl.TrapBounds, impl.TrapDepth, impl.TrapPoisoned}
	for i, trap := range traps {
		if trap != i+1 {
			t.Errorf("trap %d of the document's list is %d", i+1, trap)
		}
	}
}

// sumOf: the sum of all from n down; countDown leaves its loop by a branch out of two blocks.
const sumOf = "loop get:0 get:1 i32+1 set:1 get:0 i:1 i32+2 tee:0 brif:0 end get:1 end"
const countDown = "block loop get:0 i32+25 brif:1 get:0 i:1 i32+2 set:0 br:0 end end get:0 end"
const factorial = "get:0 i64+25 if:I I:1 else get:0 I:1 i64+2 call:0 get:0 i64+3 end end"

// Promise 8: funcs that come to their end, what they tell, and in how many steps, written out.
func TestRunsWrittenOut(t *testing.T) {
	for _, c := range []struct {
		sign, locals, body, args, value string
		steps                           int
		end                             string
	}{
		{">", "", "end", "", "", 1, "p1"},
		{">", "", "nop nop end", "", "", 3, "p1"},
		{">i", "", "i:5 end", "", "i:5", 2, "p1"},
		{">i", "", "i:-2147483648 end", "", "i:2147483648", 2, "p1"},
		{">I", "", "I:-1 end", "", "I:-1", 2, "p1"},
		{">f", "", "f:4290772992 end", "", "f:4290772992", 2, "p1"},

		// args and locals: one row, locals begin as 0
		{"iI>i", "", "get:0 end", "i:7 I:9", "i:7", 2, "p1"},
		{"iI>I", "", "get:1 end", "i:7 I:9", "I:9", 2, "p1"},
		{"i>I", "If", "get:1 end", "i:7", "I:0", 2, "p1"},
		{"i>f", "If", "get:2 end", "i:7", "f:0", 2, "p1"},
		{"i>i", "", "i:3 set:0 get:0 end", "i:7", "i:3", 4, "p1"},
		{"i>i", "", "i:3 tee:0 get:0 i32+1 end", "i:7", "i:6", 5, "p1"},
		{"i>i", "i", "get:0 set:1 i:1 set:0 get:1 end", "i:7", "i:7", 6, "p1"},

		// numbers: what was put first is the first one
		{">i", "", "i:10 i:3 i32+2 end", "", "i:7", 4, "p1"},
		{">i", "", "i:-7 i:2 i32+4 end", "", "i:-3", 4, "p1"},
		{">i", "", "i:-7 i:2 i32+6 end", "", "i:-1", 4, "p1"},
		{">i", "", "i:1 i:2 i32+18 end", "", "i:1", 4, "p1"},
		{">i", "", "I:2 I:1 i64+18 end", "", "i:0", 4, "p1"},
		{">I", "", "I:1 i64+22 end", "", "I:63", 3, "p1"},
		{">i", "", "i:1 i32+22 end", "", "i:31", 3, "p1"},
		{">i", "", "I:0 i64+25 end", "", "i:1", 3, "p1"},
		{">i", "", "i:-2147483648 i:-1 i32+6 end", "", "i:0", 4, "p1"},
		{">f", "", "f:1065353216 f:1077936128 f32+4 end", "", "f:1051372203", 4, "p1"}, // 1 by 3
		{">f", "", "f:1065353216 f:1077936128 f32+2 end", "", "f:3221225472", 4, "p1"}, // 1 less 3
		{">f", "", "f:1065353216 f:1077936128 f32+5 end", "", "f:1065353216", 4, "p1"},
		{">f", "", "f:1082130432 f32+6 end", "", "f:1073741824", 3, "p1"}, // the root of 4
		{">f", "", "f:1065353216 f:0 f32+4 end", "", "f:2139095040", 4, "p1"},
		{">i", "", "f:1065353216 f:1077936128 f32+7 end", "", "i:0", 4, "p1"},
		{">i", "", "f:0 f:2147483648 f32+7 end", "", "i:1", 4, "p1"},
		{">i", "", "f:1065353216 f:1077936128 f32+8 end", "", "i:1", 4, "p1"},
		{">i", "", "f:1065353216 f:1065353216 f32+8 end", "", "i:0", 4, "p1"},
		{">i", "", "f:1065353216 f:1065353216 f32+9 end", "", "i:1", 4, "p1"},
		{">i", "", "f:1077936128 f:1065353216 f32+9 end", "", "i:0", 4, "p1"},
		{">i", "", "f:2143289344 f:2143289344 f32+9 end", "", "i:0", 4, "p1"}, // no number
		{">i", "", "f:2143289344 f:2143289344 f32+7 end", "", "i:0", 4, "p1"},
		{">i", "", "I:4294967298 wrap end", "", "i:2", 3, "p1"},
		{">I", "", "i:-2 extends end", "", "I:-2", 3, "p1"},
		{">I", "", "i:-2 extendu end", "", "I:4294967294", 3, "p1"},
		{">f", "", "i:-1 tofloat end", "", "f:3212836864", 3, "p1"},
		{">i", "", "f:3223322624 toint end", "", "i:-2", 3, "p1"}, // -2.5 towards 0

		// dropping and choosing
		{">i", "", "i:1 I:2 f:3 drop drop end", "", "i:1", 6, "p1"},
		{">i", "", "i:1 i:2 i:0 select end", "", "i:2", 5, "p1"},
		{">i", "", "i:1 i:2 i:1 select end", "", "i:1", 5, "p1"},
		{">i", "", "i:1 i:2 i:-5 select end", "", "i:1", 5, "p1"},
		{">f", "", "f:1 f:2 i:0 select end", "", "f:2", 5, "p1"},
		{">I", "", "I:1 I:2 i:256 select end", "", "I:1", 5, "p1"},

		// blocks, one within the other
		{">i", "", "block:i i:4 end end", "", "i:4", 4, "p1"},
		{">i", "", "i:1 block:i i:4 end i32+1 end", "", "i:5", 6, "p1"},
		{">i", "", "block:i loop:i block:i i:4 end end end end", "", "i:4", 8, "p1"},
		{">i", "", "loop:i i:5 end end", "", "i:5", 4, "p1"},
		{">i", "", "i:1 if:i i:4 else i:5 end end", "", "i:4", 5, "p1"},
		{">i", "", "i:0 if:i i:4 else i:5 end end", "", "i:5", 5, "p1"},
		{">i", "", "i:-1 if:i i:4 else i:5 end end", "", "i:4", 5, "p1"},
		{">i", "", "i:10 i:1 if:i i:4 else i:5 end i32+1 end", "", "i:14", 7, "p1"},
		{">", "", "i:1 if nop nop end end", "", "", 6, "p1"},
		{">", "", "i:0 if nop nop end end", "", "", 3, "p1"}, // neither what is in it nor its end is done
		{">", "", "i:1 if else end end", "", "", 4, "p1"},
		{">", "", "i:0 if else end end", "", "", 4, "p1"},
		{">", "", "i:1 if nop else nop nop end end", "", "", 5, "p1"},
		{">", "", "i:0 if nop else nop nop end end", "", "", 6, "p1"},
		{"ii>i", "", "get:0 if:i get:1 if:i i:1 else i:2 end else get:1 if:i i:3 else i:4 end end end", "i:1 i:1", "i:1", 8, "p1"},
		{"ii>i", "", "get:0 if:i get:1 if:i i:1 else i:2 end else get:1 if:i i:3 else i:4 end end end", "i:1 i:0", "i:2", 8, "p1"},
		{"ii>i", "", "get:0 if:i get:1 if:i i:1 else i:2 end else get:1 if:i i:3 else i:4 end end end", "i:0 i:1", "i:3", 8, "p1"},
		{"ii>i", "", "get:0 if:i get:1 if:i i:1 else i:2 end else get:1 if:i i:3 else i:4 end end end", "i:0 i:0", "i:4", 8, "p1"},
		{"i>", "", "get:0 if i:1 if nop else end else nop nop end end", "i:0", "", 6, "p1"},
		{"i>", "", "get:0 if i:0 if nop else end end end", "i:1", "", 7, "p1"},

		// branches out of one block and of several, to a loop, out of the body
		{">i", "", "block:i i:1 i:2 i:3 br:0 end end", "", "i:3", 6, "p1"},
		{">", "", "block block block br:0 end nop end nop end end", "", "", 9, "p1"},
		{">", "", "block block block br:1 end nop end nop end end", "", "", 7, "p1"},
		{">", "", "block block block br:2 end nop end nop end end", "", "", 5, "p1"},
		{">", "", "block block block br:3 end nop end nop end end", "", "", 4, "p1"},
		{">i", "", "block:i block:f I:1 i:9 br:1 end drop i:1 end end", "", "i:9", 6, "p1"},
		{">i", "", "i:1 block:i block:f I:1 i:9 br:1 end drop i:1 end i32+1 end", "", "i:10", 8, "p1"},
		{">i", "", "I:1 f:2 i:9 br:0 end", "", "i:9", 4, "p1"},
		{">i", "", "i:1 if:i i:3 br:0 else i:4 end end", "", "i:3", 5, "p1"},
		{">i", "", "i:0 if:i i:3 else i:4 br:0 end end", "", "i:4", 5, "p1"},
		{">i", "", "i:0 if:i i:3 else i:4 br:1 end drop i:7 end", "", "i:4", 4, "p1"},
		{"i>i", "i", sumOf, "i:10", "i:55", 94, "p1"},
		{"i>i", "", countDown, "i:3", "i:0", 31, "p1"},
		{"i>i", "", "i:100 loop i:1 i:2 get:0 i:1 i32+2 tee:0 brif:0 drop drop end end", "i:2", "i:100", 20, "p1"},
		{"i>i", "", "loop block get:0 i:1 i32+2 tee:0 brif:1 end end get:0 end", "i:3", "i:0", 23, "p1"},

		// branches that may not be
		{">i", "", "block:i i:5 i:0 brif:0 i:1 i32+1 end end", "", "i:6", 8, "p1"},
		{">i", "", "block:i i:5 i:1 brif:0 i:1 i32+1 end end", "", "i:5", 5, "p1"},
		{">i", "", "block:i i:5 i:-1 brif:0 i:1 i32+1 end end", "", "i:5", 5, "p1"},
		{">I", "", "block:f I:5 i:0 brif:1 drop f:1 end drop I:6 end", "", "I:6", 10, "p1"},
		{">I", "", "block:f I:5 i:1 brif:1 drop f:1 end drop I:6 end", "", "I:5", 4, "p1"},

		// returning, with other words there
		{">i", "", "i:1 return end", "", "i:1", 2, "p1"},
		{">", "", "return end", "", "", 1, "p1"},
		{">", "", "i:1 I:2 return end", "", "", 3, "p1"},
		{">i", "", "I:1 block f:2 i:9 return end end", "", "i:9", 5, "p1"},
		{">f", "", "loop block i:1 if f:7 return end end end f:1 end", "", "f:7", 6, "p1"},

		// calls
		{">", "", "call:1 call:1 end", "", "", 5, "p1"},
		{">I", "", "i:1 I:2 f:3 call:2 end", "", "I:0", 7, "p1"},
		{">i", "", "i:8 f:3 call:3 end", "", "i:8", 5, "p1"},
		{"I>I", "", factorial, "I:5", "I:120", 61, "p1"},

		// globals and the memory
		{">i", "", "i:5 gset:0 gget:0 end", "", "i:5", 4, "p1 g0=5"},
		{">f", "", "f:6 gset:2 gget:2 end", "", "f:6", 4, "p1 g2=6"},
		{">I", "", "gget:1 end", "", "I:0", 2, "p1"},
		{">i", "", "i:0 i:305419896 store32 i:1 load32 end", "", "i:1193046", 6, "p1 m0=78 m1=56 m2=34 m3=12"},
		{">I", "", "i:4 I:-2 store64:4 i:0 load64:8 end", "", "I:-2", 6, "p1 m8=fe m9=ff m10=ff m11=ff m12=ff m13=ff m14=ff m15=ff"},
		{">i", "", "i:0 I:-2 store64 i:4 load32 end", "", "i:-1", 6, "p1 m0=fe m1=ff m2=ff m3=ff m4=ff m5=ff m6=ff m7=ff"},
		{">i", "", "size end", "", "i:1", 2, "p1"},
		{">i", "", "i:1 grow size i:10 i32+3 i32+1 end", "", "i:21", 7, "p2"},
	} {
		m := moduleOf(funcOf(c.sign, c.locals, c.body))
		checkWords(t, m.Funcs[0], c.args, impl.Outcome{Value: wordOrNone(c.value), Left: 100 - c.steps}, c.end)
		if steps, ok := impl.StepsOf(m, stateOf(t, m), 0, wordsOf(c.args), c.steps); steps != c.steps || !ok {
			t.Errorf("%s: %d, %t, want %d steps", c.body, steps, ok, c.steps)
		}
	}
}

// Promise 8: each number operation puts what it tells of the words, the first one put first, or traps.
func TestRunsOfEveryNumberOperation(t *testing.T) {
	r := rand.New(rand.NewSource(81))
	seen := map[int]int{}
	for op := impl.InI32; op <= impl.InToInt; op++ {
		sign, ok := wantSigns[op]
		if !ok {
			continue
		}
		takes, _, _ := strings.Cut(sign, ">")
		f := funcOf(sign, "", strings.Join([]string{"get:0", "get:1"}[:len(takes)], " "))
		f.Body = append(f.Body, impl.Ins{Op: op}, impl.Ins{Op: impl.InEnd})
		m := impl.Module{Start: -1, Funcs: []impl.Func{f}}
		for range 400 {
			args := anyWordsOf(r, f.Params)
			if r.Intn(4) == 0 && len(args) == 2 {
				args[1] = args[0]
			}
			o := checkAsRun(t, m, impl.State{}, 0, args, 10)
			seen[o.Trap]++
		}
	}
	for _, trap := range []int{impl.TrapNone, impl.TrapDivision, impl.TrapRange} {
		if seen[trap] < 50 {
			t.Error("too few:", trap, seen)
		}
	}
}

// Promise 8: what is told is what a runner says that goes by whole blocks: all short bodies of some words, also such as
// get stuck.
func TestAllShortRuns(t *testing.T) {
	sets := []struct {
		words  string
		longer int
	}{
		{"block block:i loop:i if if:i else end br:0 br:1 brif:0 i:1 I:2 drop select unreachable return call:0 i32+2", 4},
		{"block:i loop if:i else end br:0 i:0 i:3 drop brif:1", 5},
		{"i:0 i:1 I:2 select call:0 drop brif:0 get:0 tee:0", 5},
	}
	met := [5]int{}
	for _, set := range sets {
		words := codeOfWords(set.words)
		for _, sign := range []string{">", ">i", "i>I"} {
			eachRow(words, set.longer, func(l []impl.Ins) {
				f := funcOf(sign, "", "")
				f.Body = append(slices.Clone(l), impl.Ins{Op: impl.InEnd})
				if _, ok := impl.EndsOf(f.Body); !ok {
					return
				}
				m := impl.Module{Start: -1, Funcs: []impl.Func{f}}
				args := wordsOf("i:7")[:len(f.Params)]
				o := checkAsRun(t, m, impl.State{}, 0, args, 30)
				met[o.Code]++
				if code, _ := impl.CheckFunc(m, 0); code == impl.CheckOk && o.Code == impl.RunStuck {
					t.Fatalf("well typed, but stuck: %v", m)
				}
			})
		}
	}
	if met[impl.RunOk] < 1000 || met[impl.RunStuck] < 1000 || met[impl.RunFuel] < 100 || met[impl.RunTrap] < 100 {
		t.Error("too few of a kind:", met)
	}
}

// Promise 8: code that is well typed does not get stuck, and what comes of it is of the func's Result and a good state.
func TestWellTypedIsNotStuck(t *testing.T) {
	r := rand.New(rand.NewSource(82))
	met, traps := [5]int{}, [6]int{}
	for range 3000 {
		m := livelier(r, anyTyped(r))
		s := anyState(r, m)
		for range 3 {
			k := r.Intn(len(m.Funcs))
			end, o := impl.RunFunc(m, s, k, anyWordsOf(r, m.Funcs[k].Params), r.Intn(impl.MaxFuel+1))
			if o.Code == impl.RunStuck || o.Code == impl.RunBad {
				t.Fatalf("%v, func %d: %v", m, k, o)
			}
			if !impl.GoodState(m, end) {
				t.Fatalf("%v, func %d: no good state: %v", m, k, end)
			}
			if none := m.Funcs[k].Result == impl.TypeNone || o.Code != impl.RunOk; none && o.Value != (impl.Word{}) ||
				!none && (o.Value.Type != m.Funcs[k].Result || !impl.GoodWord(o.Value)) {
				t.Fatalf("%v, func %d: %v", m, k, o)
			}
			met[o.Code]++
			traps[o.Trap]++
			s = end
		}
	}
	if met[impl.RunOk] < 1000 || met[impl.RunFuel] < 20 || slices.Min(traps[:]) < 10 {
		t.Error("too few of a kind:", met, traps)
	}
}

// Promise 8: modules that are well typed, and such as have been changed, do what the other runner says.
func TestAnyRuns(t *testing.T) {
	r := rand.New(rand.NewSource(83))
	met := [5]int{}
	for range 3000 {
		m := livelier(r, anyTyped(r))
		for range r.Intn(4) {
			m = changed(r, m)
		}
		if !impl.GoodShape(m) {
			continue
		}
		s := anyState(r, m)
		for range 3 {
			k := r.Intn(len(m.Funcs))
			o := checkAsRun(t, m, s, k, anyWordsOf(r, m.Funcs[k].Params), []int{r.Intn(30), r.Intn(300), impl.MaxFuel}[r.Intn(3)])
			met[o.Code]++
		}
	}
	if met[impl.RunOk] < 500 || met[impl.RunFuel] < 100 || met[impl.RunTrap] < 100 || met[impl.RunStuck] < 100 {
		t.Error("too few of a kind:", met)
	}
}

// Promise 8: more fuel changes nothing: a run that takes so many steps is the same with any more, but for what is left,
// and with less it has done what a run does up to there.
func TestMoreFuelChangesNothing(t *testing.T) {
	r := rand.New(rand.NewSource(84))
	ended := 0
	for range 2000 {
		m := livelier(r, anyTyped(r))
		if r.Intn(3) == 0 {
			m = changed(r, m)
		}
		k := r.Intn(len(m.Funcs))
		if !impl.GoodShape(m) {
			continue
		}
		s := anyState(r, m)
		args := anyWordsOf(r, m.Funcs[k].Params)
		end, o := impl.RunFunc(m, s, k, args, impl.MaxFuel)
		took := impl.MaxFuel - o.Left
		if o.Code == impl.RunFuel {
			continue
		}
		ended++
		for _, fuel := range []int{took, took + 1, took + r.Intn(impl.MaxFuel-took+1)} {
			if fuel <= impl.MaxFuel {
				checkRun(t, m, s, k, args, fuel, end, impl.Outcome{Code: o.Code, Trap: o.Trap, Value: o.Value, Left: fuel - took})
			}
		}
		for _, fuel := range []int{0, r.Intn(took), took - 1} {
			if _, less := impl.RunFunc(m, s, k, args, fuel); less != (impl.Outcome{Code: impl.RunFuel}) {
				t.Fatalf("%v, func %d, fuel %d of %d: %v", m, k, fuel, took, less)
			}
		}
	}
	if ended < 1000 {
		t.Error("too few:", ended)
	}
}

// Calls: args in their order, Locals of each call its own, the Result put, the words of the caller as they were.
func TestCallsWrittenOut(t *testing.T) {
	m := impl.Module{Start: -1, Globals: []impl.Global{{Type: impl.TypeI32}}, Funcs: []impl.Func{
		funcOf("iI>I", "", "I:1000 get:0 get:1 call:1 i64+1 end"),
		funcOf("iI>I", "I", "get:0 extends get:1 i64+2 tee:2 get:2 get:2 i64+3 i64+1 call:2 end"),
		funcOf("I>I", "i", "i:3 tee:1 gset:0 get:0 br:0 drop end"),
		funcOf(">i", "i", "i:2 set:0 call:4 get:0 i32+1 end"),
		funcOf(">i", "i", "get:0 i:40 tee:0 return end"),
		funcOf(">", "", "call:6 call:6 call:3 drop end"),
		funcOf(">", "", "gget:0 i:1 i32+1 gset:0 end"),
		funcOf("iiiiii>i", "", "get:0 get:1 i32+2 get:2 i32+2 get:3 i32+2 get:4 i32+2 get:5 i32+2 end"),
		funcOf("iiiiii>i", "", "get:0 get:1 get:2 get:3 get:4 get:5 call:7 end"),
		funcOf("i>i", "i", "get:0 i32+25 if:i gget:0 else i:7 set:1 get:0 i:1 i32+2 call:9 get:1 i32+1 end end"),
	}}
	for _, c := range []struct {
		k           int
		args, value string
		steps       int
		end         string
	}{
		{0, "i:9 I:4", "I:1030", 22, "p0 g0=3"}, // 5 and 5 times 5
		{3, "", "i:42", 10, "p0"},
		{5, "", "", 25, "p0 g0=2"},
		{8, "i:100 i:1 i:2 i:3 i:4 i:5", "i:85", 20, "p0"},
		{9, "i:4", "i:28", 58, "p0"},
	} {
		s := stateOf(t, m)
		got, o := impl.RunFunc(m, s, c.k, wordsOf(c.args), 100)
		if o != (impl.Outcome{Value: wordOrNone(c.value), Left: 100 - c.steps}) || stateText(got) != c.end {
			t.Errorf("func %d, %s: %v, %s, want %s, %d steps, %s", c.k, c.args, o, stateText(got), c.value, c.steps, c.end)
		}
	}
}

// First states: a memory of Pages and Most, each global's Type and Bits.
func TestFirstStates(t *testing.T) {
	m := moduleOf(funcOf(">", "", "end"))
	m.Globals = []impl.Global{{Type: impl.TypeI32, Bits: 1<<32 - 1}, {Type: impl.TypeI64, Bits: 1<<64 - 1, Fixed: true}, {Type: impl.TypeF32, Bits: 7}}
	s, ok := impl.FirstState(m)
	want := impl.State{Memory: impl.Memory{Max: 2, Data: strings.Repeat("\x00", 256)}, Globals: wordsOf("i:-1 I:-1 f:7")}
	if !ok || !sameState(s, want) {
		t.Error(s, ok)
	}
	for most := range impl.MaxPages + 1 {
		for pages := range most + 1 {
			m := impl.Module{Start: -1, Memory: true, Pages: pages, Most: most}
			s, ok := impl.FirstState(m)
			if !ok || s.Memory != (impl.Memory{Max: most, Data: strings.Repeat("\x00", 256*pages)}) || len(s.Globals) != 0 || !impl.GoodState(m, s) {
				t.Error(pages, most, s, ok)
			}
		}
	}
	if s, ok := impl.FirstState(impl.Module{Start: -1}); !ok || !sameState(s, impl.State{}) {
		t.Error(s, ok)
	}
	r := rand.New(rand.NewSource(85))
	for range 500 {
		m := anyTyped(r)
		s, ok := impl.FirstState(m)
		if !ok || !impl.GoodState(m, s) || len(s.Memory.Data) != 256*m.Pages {
			t.Fatal(m, s, ok)
		}
		for i, w := range s.Globals {
			if w != (impl.Word{Type: m.Globals[i].Type, Bits: m.Globals[i].Bits}) {
				t.Fatal(m, s)
			}
		}
		bad := spoilt(r, m)
		s, ok = impl.FirstState(bad)
		if ok != impl.GoodShape(bad) || !ok && !sameState(s, impl.State{}) {
			t.Fatal(bad, s, ok)
		}
	}
}
