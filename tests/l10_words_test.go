package tests

import (
	"fmt"
	"math/rand"
	"slices"
	"strconv"
	"strings"
	"testing"

	"loop.example/g00209/impl"
)

// mostSpent: what Spent may be at most.
const mostSpent = 1000000000

// The funcs of counter, each with what it does and how many steps it takes.
const (
	funcCount  = iota // one more in the global: it; 6
	funcStore         // a word into the memory; 4
	funcLoad          // the word there; 3
	funcGrow          // 3
	funcDivide        // the global by the arg; 4
	funcDie           // counts and traps; 9
	funcLoop          // counts for ever, in 5 steps each, behind one
	funcThird         // the third of three args of unlike types; 2
	funcDeep          // calls itself for ever
	funcStart         // what is told; it is Start, if that is anything
)

// counter: a module of these funcs, one memory of a page that may grow to three, and two globals, the second fixed.
func counter(start string) impl.Module {
	m := impl.Module{
		Funcs: []impl.Func{
			funcOf(">i", "", "gget:0 i:1 i32+1 gset:0 gget:0 end"),
			funcOf("ii>", "", "get:0 get:1 store32 end"),
			funcOf("i>i", "", "get:0 load32 end"),
			funcOf("i>i", "", "get:0 grow end"),
			funcOf("i>i", "", "gget:0 get:0 i32+5 end"),
			funcOf(">", "", "call:0 drop unreachable end"),
			funcOf(">", "", "loop gget:0 i:1 i32+1 gset:0 br:0 end end"),
			funcOf("iIf>f", "", "get:2 end"),
			funcOf(">", "", "call:8 end"),
		},
		Globals: []impl.Global{{Type: impl.TypeI32}, {Type: impl.TypeI64, Fixed: true, Bits: 1<<64 - 1}},
		Memory:  true, Pages: 1, Most: 3, Start: -1,
	}
	if start != "" {
		m.Start = funcStart
		m.Funcs = append(m.Funcs, funcOf(">", "i", start))
	}
	return m
}

// bare: a module with neither memory nor globals, of one func.
func bare(body string) impl.Module {
	return impl.Module{Start: -1, Funcs: []impl.Func{funcOf(">", "", body)}}
}

func callOf(k int, args string, fuel int) impl.Call {
	return impl.Call{Func: k, Args: wordsOf(args), Fuel: fuel}
}

// steps: code that takes just so many steps, as the only one of a func with a local.
func steps(many int) string {
	rounds := max((many-8)/5, 1)
	return timesWord("nop", many-5-5*rounds) + fmt.Sprintf("i:%d set:0 loop get:0 i:1 i32+2 tee:0 brif:0 end end", rounds)
}

// made: an instance that must be well made.
func made(t *testing.T, m impl.Module) impl.Instance {
	t.Helper()
	x, o := impl.MakeInstance(m, impl.MaxFuel)
	if o.Code != impl.RunOk {
		t.Fatalf("MakeInstance(%s): %v", short(m), o)
	}
	return x
}

func copyOfInstance(x impl.Instance) impl.Instance {
	x.Module = copyOf(x.Module)
	x.State.Memory.Data = strings.Clone(x.State.Memory.Data)
	x.State.Globals = slices.Clone(x.State.Globals)
	return x
}

func copyOfCalls(l []impl.Call) []impl.Call {
	l = slices.Clone(l)
	for i, c := range l {
		l[i].Args = slices.Clone(c.Args)
	}
	return l
}

func sameInstance(a impl.Instance, b impl.Instance) bool {
	return equalModules(a.Module, b.Module) && sameState(a.State, b.State) && a.Poisoned == b.Poisoned && a.Spent == b.Spent
}

// short: what failed, in so few characters that it can be read.
func short(x any) string {
	s := strconv.QuoteToASCII(fmt.Sprint(x))
	return s[:min(len(s), 500)]
}

// instanceText: all but the module.
func instanceText(x impl.Instance) string {
	return fmt.Sprintf("%s poisoned %t spent %d", stateText(x.State), x.Poisoned, x.Spent)
}

// wantTyped: what the reader says that goes by whole blocks.
func wantTyped(m impl.Module) bool {
	if !impl.GoodShape(m) {
		return false
	}
	for k := range m.Funcs {
		if code, _, _ := wantChecked(m, k); code != impl.CheckOk {
			return false
		}
	}
	return true
}

func wantGood(x impl.Instance) bool {
	return wantTyped(x.Module) && impl.GoodState(x.Module, x.State) && x.Spent >= 0 && x.Spent <= mostSpent
}

// wantMade: by the runner that goes by whole blocks.
func wantMade(m impl.Module, fuel int) (impl.Instance, impl.Outcome) {
	if !wantTyped(m) || fuel < 0 || fuel > 5000 {
		return impl.Instance{}, impl.Outcome{Code: impl.RunBad}
	}
	s := impl.State{Memory: impl.Memory{Max: m.Most, Data: strings.Repeat("\x00", 256*m.Pages)}}
	for _, g := range m.Globals {
		s.Globals = append(s.Globals, impl.Word{Type: g.Type, Bits: g.Bits})
	}
	if m.Start == -1 {
		return impl.Instance{Module: m, State: s}, impl.Outcome{Left: fuel}
	}
	end, o := wantRun(m, s, m.Start, nil, fuel)
	return impl.Instance{Module: m, State: end, Poisoned: o.Code != impl.RunOk, Spent: fuel - o.Left}, o
}

func wantCallable(m impl.Module, c impl.Call) bool {
	if c.Fuel < 0 || c.Fuel > 5000 || c.Func < 0 || c.Func >= len(m.Funcs) || len(c.Args) != len(m.Funcs[c.Func].Params) {
		return false
	}
	for i, w := range c.Args {
		if w.Type != m.Funcs[c.Func].Params[i] || w.Type != impl.TypeI64 && w.Bits >= 1<<32 {
			return false
		}
	}
	return true
}

// wantCalled: likewise.
func wantCalled(x impl.Instance, c impl.Call) (impl.Instance, impl.Outcome) {
	switch {
	case !wantGood(x):
		return impl.Instance{}, impl.Outcome{Code: impl.RunBad}
	case !wantCallable(x.Module, c):
		return x, impl.Outcome{Code: impl.RunBad}
	case x.Poisoned:
		return x, impl.Outcome{Code: impl.RunTrap, Trap: impl.TrapPoisoned, Left: c.Fuel}
	}
	end, o := wantRun(x.Module, x.State, c.Func, c.Args, c.Fuel)
	return impl.Instance{Module: x.Module, State: end, Poisoned: o.Code != impl.RunOk, Spent: min(x.Spent+c.Fuel-o.Left, mostSpent)}, o
}

// checkMade: what is made is what the other runner says.
func checkMade(t *testing.T, m impl.Module, fuel int) (impl.Instance, impl.Outcome) {
	t.Helper()
	want, wantO := wantMade(m, fuel)
	got, o := impl.MakeInstance(m, fuel)
	if o != wantO || !sameInstance(got, want) {
		t.Fatalf("MakeInstance(%s, %d) = %s, %v, want %s, %v", short(m), fuel, instanceText(got), o, instanceText(want), wantO)
	}
	checkGood(t, got, o.Code != impl.RunBad)
	return got, o
}

// checkCalled: likewise of a call.
func checkCalled(t *testing.T, x impl.Instance, c impl.Call) (impl.Instance, impl.Outcome) {
	t.Helper()
	want, wantO := wantCalled(x, c)
	got, o := impl.CallInstance(x, c)
	if o != wantO || !sameInstance(got, want) {
		t.Fatalf("CallInstance(%s, %s) = %s, %v, want %s, %v", short(x), short(c), instanceText(got), o, instanceText(want), wantO)
	}
	checkGood(t, got, wantGood(x))
	return got, o
}

// checkGood: whether an instance is good, and what StateOf tells of it then.
func checkGood(t *testing.T, x impl.Instance, good bool) {
	t.Helper()
	if got := impl.GoodInstance(x); got != good {
		t.Fatalf("GoodInstance(%s) = %t", short(x), got)
	}
	want := impl.State{}
	if good {
		want = x.State
	}
	if s, ok := impl.StateOf(x); ok != good || !sameState(s, want) {
		t.Fatalf("StateOf(%s) = %s, %t", short(x), short(stateText(s)), ok)
	}
}

// checkPlayed: PlayCalls is MakeInstance with MaxFuel and each call, one by one.
func checkPlayed(t *testing.T, m impl.Module, l []impl.Call) []impl.Outcome {
	t.Helper()
	x, o := checkMade(t, m, impl.MaxFuel)
	wantOk := o.Code != impl.RunBad && len(l) <= 40
	var want []impl.Outcome
	for _, c := range l {
		if wantOk {
			x, o = checkCalled(t, x, c)
			want = append(want, o)
		}
	}
	got, ok := impl.PlayCalls(m, l)
	if ok != wantOk || !slices.Equal(got, want) {
		t.Fatalf("PlayCalls(%s, %s) = %v, %t, want %v, %t", short(m), short(l), got, ok, want, wantOk)
	}
	return got
}

// anyCall: mostly one that may run.
func anyCall(r *rand.Rand, m impl.Module) impl.Call {
	if len(m.Funcs) == 0 {
		return impl.Call{Func: r.Intn(3) - 1, Fuel: r.Intn(10)}
	}
	c := impl.Call{Func: r.Intn(len(m.Funcs)), Fuel: []int{r.Intn(30), r.Intn(300), impl.MaxFuel}[r.Intn(3)]}
	c.Args = anyWordsOf(r, m.Funcs[c.Func].Params)
	return c
}

// spoiltCall: one thing in it changed into anything.
func spoiltCall(r *rand.Rand, c impl.Call) impl.Call {
	c.Args = slices.Clone(c.Args)
	switch r.Intn(5) {
	case 0:
		c.Func = anyPlace(r)
	case 1:
		c.Fuel = anyPlace(r)
	case 2:
		c.Args = append(c.Args, impl.Word{Type: anyPlace(r), Bits: anyWord(r)})
	case 3:
		c.Args = c.Args[:len(c.Args)/2]
	default:
		if n := len(c.Args); n > 0 {
			c.Args[r.Intn(n)] = impl.Word{Type: typesOfLetters("iIf")[r.Intn(3)], Bits: anyWord(r)}
		}
	}
	return c
}

// anyStarted: a well typed module, now and then with a Start.
func anyStarted(r *rand.Rand) impl.Module {
	m := livelier(r, anyTyped(r))
	for k, f := range m.Funcs {
		if len(f.Params) == 0 && f.Result == impl.TypeNone && r.Intn(2) == 0 {
			m.Start = k
		}
	}
	return m
}

// anyInstance: a good one with any state.
func anyInstance(r *rand.Rand) impl.Instance {
	m := anyStarted(r)
	return impl.Instance{Module: m, State: anyState(r, m), Poisoned: r.Intn(4) == 0, Spent: []int{0, r.Intn(10000), mostSpent - r.Intn(50)}[r.Intn(3)]}
}
