package tests

import (
	"fmt"
	"math"
	"math/rand"
	"reflect"
	"slices"
	"strings"
	"testing"

	"loop.example/g00209/impl"
)

// played: what the functions of chapter 10 are given.
type played struct {
	x    impl.Instance
	m    impl.Module
	fuel int
	l    []impl.Call
}

// answers: what every function of chapter 10 answers, as a text.
func (p played) answers() string {
	text := fmt.Sprintln(impl.GoodInstance(p.x))
	tell := func(x impl.Instance, o impl.Outcome) { text += fmt.Sprintln(x, o) }
	tell(impl.MakeInstance(p.m, p.fuel))
	for _, c := range p.l[:min(len(p.l), 3)] {
		tell(impl.CallInstance(p.x, c))
	}
	outcomes, ok := impl.PlayCalls(p.m, p.l)
	s, good := impl.StateOf(p.x)
	return text + fmt.Sprintln(outcomes, ok, s, good)
}

// checkPlaying: they answer, in a way that fits, and write into nothing.
func checkPlaying(t *testing.T, p played) string {
	t.Helper()
	defer func() {
		if r := recover(); r != nil {
			t.Fatalf("panic at %s: %v", short(p), r)
		}
	}()
	kept := played{copyOfInstance(p.x), copyOf(p.m), p.fuel, copyOfCalls(p.l)}
	text := p.answers()
	if !reflect.DeepEqual(p, kept) {
		t.Fatalf("an argument has changed: %s, was %s", short(p), short(kept))
	}
	good := impl.GoodInstance(p.x)
	if s, ok := impl.StateOf(p.x); ok != good || !ok && !sameState(s, impl.State{}) || ok && !sameState(s, p.x.State) {
		t.Fatalf("StateOf(%s) = %s, %t", short(p.x), short(s), ok)
	}
	x, o := impl.MakeInstance(p.m, p.fuel)
	if impl.GoodInstance(x) == (o.Code == impl.RunBad) || o.Code == impl.RunBad && (!sameInstance(x, impl.Instance{}) || o != impl.Outcome{Code: impl.RunBad}) {
		t.Fatalf("MakeInstance(%s, %d) = %s, %v", short(p.m), p.fuel, short(x), o)
	}
	for _, c := range p.l[:min(len(p.l), 3)] {
		x, o := impl.CallInstance(p.x, c)
		if impl.GoodInstance(x) != good || !good && (!sameInstance(x, impl.Instance{}) || o != impl.Outcome{Code: impl.RunBad}) || (o.Code == impl.RunTrap) != (o.Trap != 0) {
			t.Fatalf("CallInstance(%s, %s) = %s, %v", short(p.x), short(c), short(x), o)
		}
	}
	if l, ok := impl.PlayCalls(p.m, p.l); ok && len(l) != len(p.l) || !ok && len(l) != 0 {
		t.Fatalf("PlayCalls(%s, %s) = %v, %t", short(p.m), short(p.l), l, ok)
	}
	return text
}

// spoiltInstance: one thing in it changed into anything.
func spoiltInstance(r *rand.Rand, x impl.Instance) impl.Instance {
	x = copyOfInstance(x)
	switch r.Intn(6) {
	case 0:
		x.Spent = anyPlace(r)
	case 1:
		x.Poisoned = !x.Poisoned
	case 2:
		x.Module = changed(r, x.Module)
	default:
		a := spoiltAsked(r, asked{m: x.Module, s: x.State})
		x.Module, x.State = a.m, a.s
	}
	return x
}

func anyPlayed(r *rand.Rand) played {
	p := played{x: anyInstance(r), m: anyStarted(r), fuel: r.Intn(300)}
	if r.Intn(3) == 0 {
		p.m = p.x.Module
	}
	for range r.Intn(5) {
		p.l = append(p.l, anyCall(r, []impl.Module{p.x.Module, p.m}[r.Intn(2)]))
	}
	return p
}

// spoiltPlayed: one thing in it changed into anything.
func spoiltPlayed(r *rand.Rand, p played) played {
	p.l = copyOfCalls(p.l)
	switch n := len(p.l); {
	case r.Intn(4) == 0:
		p.x = spoiltInstance(r, p.x)
	case r.Intn(3) == 0:
		p.m = spoilt(r, p.m)
	case r.Intn(3) == 0:
		p.fuel = anyPlace(r)
	case n > 0:
		i := r.Intn(n)
		p.l[i] = spoiltCall(r, p.l[i])
	}
	return p
}

// Promise 19: every function answers at any arguments.
func TestInstancesAnswerAtAnything(t *testing.T) {
	m := moduleOf(funcOf("i>", "", "end"))
	states := append(badStates(), stateOf(t, m), impl.State{Memory: impl.Memory{Max: math.MaxInt, Data: strings.Repeat("\xff", 1<<20)}})
	for i, m := range append(badModules(), m, counter("unreachable end"), impl.Module{Start: -1}) {
		for k, s := range states {
			if i%3 != k%3 {
				continue
			}
			n := anyInts()[(i+k)%len(anyInts())]
			l := []impl.Call{{Func: n, Fuel: 5}, {Fuel: n}, {Args: []impl.Word{{Type: n, Bits: uint64(n)}}, Fuel: 5}}
			checkPlaying(t, played{impl.Instance{Module: m, State: s, Spent: n}, m, n, l})
			checkPlaying(t, played{impl.Instance{Module: m, State: s, Poisoned: true}, m, 5, l})
		}
	}
	checkPlaying(t, played{l: make([]impl.Call, 100000)})
	checkPlaying(t, played{m: m, l: make([]impl.Call, 100000)})
	checkPlaying(t, played{x: made(t, m), m: m, fuel: 5, l: []impl.Call{{Args: make([]impl.Word, 100000)}, {Args: wordsOf("i:1"), Fuel: math.MinInt}}})
	r := rand.New(rand.NewSource(103))
	for range 1500 {
		p := anyPlayed(r)
		checkPlaying(t, p)
		for range 3 {
			p = spoiltPlayed(r, p)
			checkPlaying(t, p)
		}
	}
}

// Promise 19: each single instruction, good or not, in a Start and in a func that is called.
func TestInstancesAnswerAtEveryInstruction(t *testing.T) {
	for _, op := range edgeOps() {
		for _, a := range edgeA() {
			for _, ahead := range []string{"", "f:1 I:2 i:3 i:4 i:5", "unreachable"} {
				f := funcOf(">", "iIf", ahead)
				f.Body = append(f.Body, impl.Ins{Op: op, A: a}, impl.Ins{Op: impl.InEnd})
				m := moduleOf(f)
				s, _ := impl.FirstState(m)
				p := played{impl.Instance{Module: m, State: s}, m, 100, []impl.Call{{Fuel: 100}, {Func: 1, Fuel: 1}}}
				checkPlaying(t, p)
				p.m.Start = 0
				checkPlaying(t, p)
			}
		}
	}
}

// Promise 19: what lies behind a list's length is neither read nor written.
func TestInstancesLeaveArguments(t *testing.T) {
	r := rand.New(rand.NewSource(104))
	behind := impl.Word{Type: -1, Bits: 7}
	for range 700 {
		p := anyPlayed(r)
		roomy := p
		roomy.x.Module, roomy.m = withRoom(p.x.Module), withRoom(p.m)
		globals := append(slices.Clone(p.x.State.Globals), behind, behind)
		roomy.x.State.Globals = globals[:len(p.x.State.Globals)]
		calls := append(copyOfCalls(p.l), impl.Call{Func: -7}, impl.Call{Func: -8})
		var args [][]impl.Word
		for i, c := range p.l {
			args = append(args, append(slices.Clone(c.Args), behind, behind))
			calls[i].Args = args[i][:len(c.Args)]
		}
		roomy.l = calls[:len(p.l)]
		kept := []impl.Module{copyOf(allOf(roomy.x.Module)), copyOf(allOf(roomy.m))}
		if got, want := checkPlaying(t, roomy), checkPlaying(t, p); got != want {
			t.Fatalf("%s: %s, want %s", short(p), short(got), short(want))
		}
		if !reflect.DeepEqual([]impl.Module{allOf(roomy.x.Module), allOf(roomy.m)}, kept) || !slices.Equal(globals, append(slices.Clone(p.x.State.Globals), behind, behind)) ||
			calls[len(p.l)].Func != -7 || calls[len(p.l)+1].Func != -8 {
			t.Fatalf("something behind a list's length has changed: %s", short(p))
		}
		for i, c := range p.l {
			if !slices.Equal(args[i], append(slices.Clone(c.Args), behind, behind)) {
				t.Fatalf("something behind the args has changed: %v", args[i])
			}
		}
	}
}

// spoilLists writes into all lists of an instance, also behind their lengths, one after the other; told says after each
// whether all else is as it was.
func spoilLists(x impl.Instance, told func(what string)) {
	for k := range x.Module.Funcs {
		f := &x.Module.Funcs[k]
		for what, l := range map[string][]int{"Params": f.Params, "Locals": f.Locals} {
			l = l[:cap(l)]
			for i := range l {
				l[i] = -7
			}
			told(what)
		}
		body := f.Body[:cap(f.Body)]
		for i := range body {
			body[i] = impl.Ins{Op: -7, A: -7}
		}
		told("Body")
	}
	globals, words, funcs := x.Module.Globals, x.State.Globals, x.Module.Funcs
	for i := range globals[:cap(globals)] {
		globals[:cap(globals)][i] = impl.Global{Type: -7, Bits: 7}
	}
	told("Globals")
	for i := range words[:cap(words)] {
		words[:cap(words)][i] = impl.Word{Type: -7, Bits: 7}
	}
	told("words")
	clear(funcs[:cap(funcs)])
	told("Funcs")
}

// checkNew: an answer shares nothing with what was given, nor with the same answer told again.
func checkNew(t *testing.T, what string, given impl.Instance, answer func() impl.Instance) {
	t.Helper()
	kept := copyOfInstance(given)
	one, two := answer(), answer()
	was := copyOfInstance(two)
	if data := one.State.Memory.Data; sharesBytes(given.State.Memory.Data, data) || sharesBytes(two.State.Memory.Data, data) {
		t.Errorf("%s: a memory lies in another one", what)
	}
	spoilLists(one, func(list string) {
		if !sameInstance(given, kept) || !sameInstance(two, was) {
			t.Fatalf("%s: %s lie in another list", what, list)
		}
	})
	if again := answer(); !sameInstance(again, was) {
		t.Errorf("%s: answered otherwise then: %s", what, short(again))
	}
}

// Promise 19: answers are new: nothing of an instance that is told lies in one that was given, nor in one that is told
// later, whether the call was done or not.
func TestInstancesAreNew(t *testing.T) {
	m := counter("i:0 i:7 store32 call:0 drop end")
	m.Funcs[funcThird].Locals = typesOfLetters("iIf")
	x := made(t, m)
	poisoned := copyOfInstance(x)
	poisoned.Poisoned = true
	for _, c := range []impl.Call{
		callOf(funcCount, "", 10), callOf(funcStore, "i:0 i:1", 10), callOf(funcGrow, "i:1", 10), callOf(funcThird, "i:1 I:2 f:3", 10), callOf(funcLoad, "i:0", 10),
		callOf(funcDie, "", 10), callOf(funcLoop, "", 10), callOf(funcCount, "", 0), callOf(-1, "", 10), callOf(funcCount, "i:1", 10), callOf(funcCount, "", -1),
	} {
		for _, given := range []impl.Instance{x, poisoned} {
			checkNew(t, fmt.Sprint(c), given, func() impl.Instance {
				got, _ := impl.CallInstance(given, c)
				return got
			})
		}
	}
	checkNew(t, "StateOf", x, func() impl.Instance {
		s, _ := impl.StateOf(x)
		return impl.Instance{State: s}
	})
	for _, start := range []string{"", "end", "call:0 drop end", "unreachable end", "loop br:0 end end"} {
		given := impl.Instance{Module: counter(start)}
		checkNew(t, "Start "+start, given, func() impl.Instance {
			got, _ := impl.MakeInstance(given.Module, 50)
			return got
		})
	}
	calls := slices.Repeat([]impl.Call{callOf(funcCount, "", 10)}, 3)
	one, _ := impl.PlayCalls(m, calls)
	two, _ := impl.PlayCalls(m, calls)
	was := slices.Clone(two)
	clear(one[:cap(one)])
	if again, _ := impl.PlayCalls(m, calls); !slices.Equal(two, was) || !slices.Equal(again, was) {
		t.Error("outcomes lie in others:", two)
	}
}

// Promise 19: no two lists of one answer share memory, not even where those of what was given do.
func TestInstancesShareNothingWithin(t *testing.T) {
	f := funcOf("ii>i", "ii", "get:0 get:1 i32+1 end")
	f.Locals = f.Params
	body := slices.Clone(f.Body)
	m := impl.Module{Start: -1, Funcs: slices.Repeat([]impl.Func{f}, 4)}
	given := impl.Instance{Module: m}
	for _, answer := range []func() (impl.Instance, impl.Outcome){
		func() (impl.Instance, impl.Outcome) { return impl.MakeInstance(m, 10) },
		func() (impl.Instance, impl.Outcome) { return impl.CallInstance(given, callOf(0, "i:1 i:2", 10)) },
		func() (impl.Instance, impl.Outcome) { return impl.CallInstance(given, callOf(0, "", 10)) },
	} {
		x, _ := answer()
		var lists [][]int
		for _, g := range x.Module.Funcs {
			lists = append(lists, g.Params, g.Locals)
		}
		for i, l := range lists {
			clear(l[:cap(l)])
			for _, other := range lists[i+1:] {
				if !slices.Equal(other, typesOfLetters("ii")) {
					t.Fatalf("two lists of types share memory: %v", lists)
				}
			}
		}
		for k, g := range x.Module.Funcs {
			clear(g.Body[:cap(g.Body)])
			for _, other := range x.Module.Funcs[k+1:] {
				if !slices.Equal(other.Body, body) {
					t.Fatalf("two bodies share memory: %v", x.Module)
				}
			}
		}
	}
}

// Promise 19: the same call answers the same again, whatever was asked between, also at the same time.
func TestInstancesKeepNothing(t *testing.T) {
	r := rand.New(rand.NewSource(105))
	for range 400 {
		p := spoiltPlayed(r, anyPlayed(r))
		first := checkPlaying(t, p)
		checkPlaying(t, spoiltPlayed(r, p))
		both := make(chan string)
		for range 2 {
			go func() { both <- p.answers() }()
		}
		for _, again := range []string{checkPlaying(t, p), <-both, <-both} {
			if again != first {
				t.Fatalf("%s, then %s", short(first), short(again))
			}
		}
	}
}
