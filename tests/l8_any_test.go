package tests

import (
	"fmt"
	"math"
	"math/rand"
	"reflect"
	"slices"
	"strings"
	"testing"

	"loop.example/g00209/impl"
)

// asked: what the functions of chapter 8 are given.
type asked struct {
	m    impl.Module
	s    impl.State
	k    int
	args []impl.Word
	fuel int
}

func (a asked) copied() asked {
	a.m, a.s.Globals, a.args = copyOf(a.m), slices.Clone(a.s.Globals), slices.Clone(a.args)
	return a
}

// answers: what every function of chapter 8 answers, as a text.
func (a asked) answers() string {
	first, ok := impl.FirstState(a.m)
	end, o := impl.RunFunc(a.m, a.s, a.k, a.args, a.fuel)
	steps, ended := impl.StepsOf(a.m, a.s, a.k, a.args, a.fuel)
	good := 0
	for _, w := range a.args {
		if impl.GoodWord(w) {
			good++
		}
	}
	return fmt.Sprintf("%v %v %t %t %v %v %v %d %t %d", first.Memory, first.Globals, ok, impl.GoodState(a.m, a.s), end.Memory, end.Globals, o, steps, ended, good)
}

// checkAsked: they answer, in a way that fits, and write into nothing.
func checkAsked(t *testing.T, a asked) string {
	t.Helper()
	defer func() {
		if r := recover(); r != nil {
			t.Fatalf("panic at %.300v: %v", a, r)
		}
	}()
	kept := a.copied()
	text := a.answers()
	if !reflect.DeepEqual(a, kept) {
		t.Fatalf("an argument has changed: %v, was %v", a, kept)
	}
	good := impl.GoodState(a.m, a.s) && a.fuel >= 0 && a.fuel <= impl.MaxFuel && a.k >= 0 && a.k < len(a.m.Funcs) && len(a.args) == len(a.m.Funcs[a.k].Params)
	for i, w := range a.args {
		good = good && impl.GoodWord(w) && w.Type == a.m.Funcs[a.k].Params[i]
	}
	end, o := impl.RunFunc(a.m, a.s, a.k, a.args, a.fuel)
	if good == (o.Code == impl.RunBad) || o.Code < 0 || o.Code > impl.RunTrap || (o.Code == impl.RunTrap) != (o.Trap != 0) || o.Left < 0 || o.Left > max(a.fuel, 0) {
		t.Fatalf("RunFunc(%v) = %v", a, o)
	}
	if !good && (o != (impl.Outcome{Code: impl.RunBad}) || !sameState(end, impl.State{})) || good && !impl.GoodState(a.m, end) {
		t.Fatalf("RunFunc(%v) = %v, %v", a, end, o)
	}
	return text
}

// spoiltAsked: one thing in it changed into anything.
func spoiltAsked(r *rand.Rand, a asked) asked {
	a = a.copied()
	switch r.Intn(8) {
	case 0:
		a.m = spoilt(r, a.m)
	case 1:
		a.s.Memory = impl.Memory{Max: anyPlace(r), Data: a.s.Memory.Data}
	case 2:
		a.s.Memory.Data += strings.Repeat("x", r.Intn(600))
	case 3:
		a.s.Globals = append(a.s.Globals, impl.Word{Type: anyPlace(r), Bits: anyWord(r)})
	case 4:
		if n := len(a.s.Globals); n > 0 {
			a.s.Globals[r.Intn(n)].Bits = anyWord(r)
		}
	case 5:
		a.k = anyPlace(r)
	case 6:
		a.args = append(a.args, impl.Word{Type: anyPlace(r), Bits: anyWord(r)})
	default:
		a.fuel = anyPlace(r)
	}
	return a
}

func anyAsked(r *rand.Rand) asked {
	a := asked{m: livelier(r, anyTyped(r)), fuel: r.Intn(300)}
	a.s = anyState(r, a.m)
	a.k = r.Intn(len(a.m.Funcs))
	a.args = anyWordsOf(r, a.m.Funcs[a.k].Params)
	return a
}

// Promise 19: every function answers at any arguments.
func TestRunsAnswerAtAnything(t *testing.T) {
	m := moduleOf(funcOf("i>", "", "end"))
	states := append(badStates(), impl.State{Memory: impl.Memory{Max: math.MaxInt, Data: strings.Repeat("\xff", 1<<20)}})
	for _, m := range []impl.Module{m, {}, {Start: -1}, {Start: -1, Funcs: make([]impl.Func, 11)}, {Start: math.MinInt, Pages: math.MaxInt}} {
		for _, s := range states {
			for _, n := range anyInts() {
				checkAsked(t, asked{m, s, n, nil, 5})
				checkAsked(t, asked{m, s, 0, []impl.Word{{Type: n, Bits: uint64(n)}}, n})
			}
		}
	}
	checkAsked(t, asked{m: impl.Module{Start: -1, Funcs: make([]impl.Func, 100000)}, args: make([]impl.Word, 100000)})
	r := rand.New(rand.NewSource(86))
	for range 2000 {
		a := anyAsked(r)
		checkAsked(t, a)
		for range 3 {
			a = spoiltAsked(r, a)
			checkAsked(t, a)
		}
	}
}

// Promise 19: each single instruction, good or not, with nothing on the stack and with words of all types.
func TestRunsAnswerAtEveryInstruction(t *testing.T) {
	for _, op := range edgeOps() {
		for _, a := range edgeA() {
			for _, ahead := range []string{"", "f:1 I:2 i:3 i:4 i:5", "I:1 I:2", "f:1 f:2"} {
				f := funcOf("iIf>", "iIf", ahead)
				f.Body = append(f.Body, impl.Ins{Op: op, A: a}, impl.Ins{Op: impl.InEnd})
				m := moduleOf(f)
				s, _ := impl.FirstState(m)
				checkAsked(t, asked{m, s, 0, wordsOf("i:1 I:2 f:3"), 100})
			}
		}
	}
}

// Promise 19: what lies behind a list's length is neither read nor written.
func TestRunsLeaveArguments(t *testing.T) {
	r := rand.New(rand.NewSource(87))
	behind := impl.Word{Type: -1, Bits: 7}
	for range 1000 {
		a := anyAsked(r)
		roomy := a
		roomy.m = withRoom(a.m)
		globals := append(slices.Clone(a.s.Globals), behind, behind)
		args := append(slices.Clone(a.args), behind, behind)
		roomy.s.Globals, roomy.args = globals[:len(a.s.Globals)], args[:len(a.args)]
		kept := copyOf(allOf(roomy.m))
		if got, want := checkAsked(t, roomy), checkAsked(t, a); got != want {
			t.Fatalf("%v: %s, want %s", a, got, want)
		}
		if !reflect.DeepEqual(allOf(roomy.m), kept) || !slices.Equal(globals, append(slices.Clone(a.s.Globals), behind, behind)) || !slices.Equal(args, append(slices.Clone(a.args), behind, behind)) {
			t.Fatalf("something behind a list's length has changed: %v", a)
		}
	}
}

// Promise 19: answers are new: a state that is told shares nothing with the one that was given, nor with another one.
func TestStatesAreNew(t *testing.T) {
	for _, body := range []string{"end", "i:0 i:1 store32 end", "i:0 grow drop end", "i:9 gset:0 end", "unreachable end", "drop end", "loop br:0 end end", "i:999 load32 end"} {
		m := moduleOf(funcOf(">", "", body))
		s := stateOf(t, m)
		kept := slices.Clone(s.Globals)
		one, _ := impl.RunFunc(m, s, 0, nil, 10)
		two, _ := impl.RunFunc(m, s, 0, nil, 10)
		if sharesBytes(s.Memory.Data, one.Memory.Data) || sharesBytes(one.Memory.Data, two.Memory.Data) {
			t.Errorf("%s: a memory lies in another one", body)
		}
		was := slices.Clone(two.Globals)
		for i := range one.Globals {
			one.Globals[i] = impl.Word{Type: -1, Bits: 5}
		}
		one.Globals = append(one.Globals, impl.Word{Type: -2})
		if !slices.Equal(s.Globals, kept) || !slices.Equal(two.Globals, was) {
			t.Errorf("%s: words lie in others: %v, %v", body, s, two)
		}
	}
	m := moduleOf(funcOf(">", "", "end"))
	one, two := stateOf(t, m), stateOf(t, m)
	one.Globals[0].Bits = 77
	if two.Globals[0].Bits != 0 || m.Globals[0].Bits != 0 || sharesBytes(one.Memory.Data, two.Memory.Data) {
		t.Error("first states share something")
	}
}

// Promise 19: the same call answers the same again, whatever was asked between, also at the same time.
func TestRunsKeepNothing(t *testing.T) {
	r := rand.New(rand.NewSource(88))
	for range 500 {
		a := anyAsked(r)
		a.m = changed(r, a.m)
		first := checkAsked(t, a)
		checkAsked(t, spoiltAsked(r, a))
		both := make(chan string)
		for range 2 {
			go func() { both <- a.answers() }()
		}
		for _, again := range []string{checkAsked(t, a), <-both, <-both} {
			if again != first {
				t.Fatalf("%s, then %s", first, again)
			}
		}
	}
}
