package tests

import (
	"math"
	"math/rand"
	"slices"
	"strings"
	"testing"

	"loop.example/g00209/impl"
)

// Fuel 0, MaxFuel, one more and below 0, of MakeInstance and of a call; runs that take all of it, and one more.
func TestInstanceFuelAtItsEdges(t *testing.T) {
	bad := impl.Outcome{Code: impl.RunBad}
	for _, fuel := range []int{impl.MaxFuel + 1, -1, math.MaxInt, math.MinInt} {
		for _, start := range []string{"", "end", "unreachable end"} {
			if x, o := checkMade(t, counter(start), fuel); o != bad || !sameInstance(x, impl.Instance{}) {
				t.Error(start, fuel, instanceText(x), o)
			}
		}
		if x, o := checkCalled(t, made(t, counter("end")), callOf(funcCount, "", fuel)); o != bad || x.Spent != 1 || x.Poisoned {
			t.Error(fuel, instanceText(x), o)
		}
	}
	for _, c := range []struct {
		takes, fuel int
		want        impl.Outcome
		spent       int
	}{
		{4999, impl.MaxFuel, impl.Outcome{Left: 1}, 4999},
		{5000, impl.MaxFuel, impl.Outcome{}, 5000},
		{5001, impl.MaxFuel, impl.Outcome{Code: impl.RunFuel}, 5000},
		{5000, 4999, impl.Outcome{Code: impl.RunFuel}, 4999},
		{20, 20, impl.Outcome{}, 20},
		{20, 19, impl.Outcome{Code: impl.RunFuel}, 19},
		{20, 0, impl.Outcome{Code: impl.RunFuel}, 0},
	} {
		started := counter(steps(c.takes))
		x, o := checkMade(t, started, c.fuel)
		if o != c.want || x.Spent != c.spent || x.Poisoned != (c.want.Code != 0) {
			t.Errorf("Start, %v: %s, %v", c, instanceText(x), o)
		}
		called := copyOf(started)
		called.Start = -1
		x, o = checkCalled(t, made(t, called), callOf(funcStart, "", c.fuel))
		if o != c.want || x.Spent != c.spent || x.Poisoned != (c.want.Code != 0) {
			t.Errorf("a call, %v: %s, %v", c, instanceText(x), o)
		}
		// PlayCalls gives MaxFuel, whatever the calls have
		l := checkPlayed(t, started, []impl.Call{callOf(funcCount, "", 6)})
		if (l[0].Trap == impl.TrapPoisoned) != (c.takes > impl.MaxFuel) {
			t.Errorf("played, %v: %v", c, l)
		}
	}
}

// Spent 0, what it may be at most, one more and below 0; a call that would make it more leaves it there.
func TestSpentAtItsEdges(t *testing.T) {
	x := made(t, counter(""))
	for _, c := range []struct {
		spent, then int
		good        bool
	}{
		{0, 6, true}, {1, 7, true}, {mostSpent - 7, mostSpent - 1, true}, {mostSpent - 6, mostSpent, true}, {mostSpent - 5, mostSpent, true},
		{mostSpent - 1, mostSpent, true}, {mostSpent, mostSpent, true},
		{mostSpent + 1, 0, false}, {-1, 0, false}, {math.MaxInt, 0, false}, {math.MinInt, 0, false},
	} {
		for _, poisoned := range []bool{false, true} {
			x.Spent, x.Poisoned = c.spent, poisoned
			checkGood(t, x, c.good)
			got, o := checkCalled(t, x, callOf(funcCount, "", 50))
			then, code := c.then, impl.RunOk
			switch {
			case !c.good:
				code = impl.RunBad
			case poisoned:
				then, code = c.spent, impl.RunTrap
			}
			if o.Code != code || got.Spent != then || got.Poisoned != (poisoned && c.good) {
				t.Errorf("%v, poisoned %t: %s, %v", c, poisoned, instanceText(got), o)
			}
		}
	}
	// it does not matter how the call ends, nor how much there is to spend
	x.Poisoned = false
	for _, c := range []impl.Call{callOf(funcLoop, "", impl.MaxFuel), callOf(funcDie, "", 20), callOf(funcCount, "", 6)} {
		for _, ahead := range []int{0, 1, 5, 6, 9, 4999, 5000} {
			x.Spent = mostSpent - ahead
			checkCalled(t, x, c)
		}
	}
	// what is at its most stays good and goes on
	x.Spent = mostSpent
	for i := range 5 {
		got, o := checkCalled(t, x, callOf(funcCount, "", 10))
		if o.Value.Bits != uint64(i+1) || got.Spent != mostSpent {
			t.Error(instanceText(got), o)
		}
		x = got
	}
}

// No calls, 40 and 41; a call that is refused does not end the row.
func TestPlayedAtItsEdges(t *testing.T) {
	m := counter("")
	count := callOf(funcCount, "", 10)
	if l, ok := impl.PlayCalls(m, nil); !ok || len(l) != 0 {
		t.Error(l, ok)
	}
	if l, ok := impl.PlayCalls(m, []impl.Call{}); !ok || len(l) != 0 {
		t.Error(l, ok)
	}
	for _, many := range []int{1, 39, 40} {
		l := checkPlayed(t, m, slices.Repeat([]impl.Call{count}, many))
		if len(l) != many || l[many-1] != (impl.Outcome{Value: impl.Word{Type: impl.TypeI32, Bits: uint64(many)}, Left: 4}) {
			t.Error(many, l)
		}
	}
	for _, many := range []int{41, 42, 100, 100000} {
		for _, c := range []impl.Call{count, {}, {Func: -1}} {
			if l, ok := impl.PlayCalls(m, slices.Repeat([]impl.Call{c}, many)); ok || len(l) != 0 {
				t.Error(many, len(l), ok)
			}
		}
	}
	l := checkPlayed(t, m, []impl.Call{{Func: -1}, count, {}, count, callOf(funcCount, "i:1", 10), count, callOf(funcCount, "", -1), callOf(10, "", 10), count})
	var told []uint64
	for _, o := range l {
		told = append(told, o.Value.Bits)
	}
	if !slices.Equal(told, []uint64{0, 1, 0, 0, 0, 0, 0, 0, 0}) || l[2].Code != impl.RunFuel || l[8].Trap != impl.TrapPoisoned {
		t.Error(l)
	}
	l = checkPlayed(t, m, []impl.Call{{Func: -1}, count, callOf(funcCount, "i:1", 10), count, callOf(funcCount, "", -1), callOf(10, "", 10), count})
	if l[6] != (impl.Outcome{Value: wordOrNone("i:3"), Left: 4}) {
		t.Error(l)
	}
}

// A call that is refused, of a good instance, of a Poisoned one, and of one that is not good: RunBad for all, ahead of the
// poison, with the instance as it was, or the zero one.
func TestInstanceCallsRefused(t *testing.T) {
	x := made(t, counter("i:3 gset:0 i:0 i:-1 store32 end"))
	poisoned := copyOfInstance(x)
	poisoned.Poisoned = true
	wrong := copyOfInstance(x)
	wrong.Spent = -1
	calls := []impl.Call{
		{Func: -1, Fuel: 5}, {Func: 10, Fuel: 5}, {Func: 11, Fuel: 5}, {Func: math.MaxInt, Fuel: 5}, {Func: math.MinInt, Fuel: 5},
		callOf(funcCount, "", -1), callOf(funcCount, "", impl.MaxFuel+1), callOf(funcCount, "", math.MinInt), callOf(funcCount, "", math.MaxInt),
		callOf(funcCount, "i:0", 5), callOf(funcLoad, "", 5), callOf(funcLoad, "i:0 i:0", 5), callOf(funcLoad, "I:0", 5), callOf(funcLoad, "f:0", 5),
		callOf(funcThird, "i:1 I:2", 5), callOf(funcThird, "i:1 I:2 f:3 f:4", 5), callOf(funcThird, "f:1 I:2 i:3", 5), callOf(funcThird, "i:1 i:2 f:3", 5),
		{Func: funcLoad, Args: []impl.Word{{Type: impl.TypeI32, Bits: 1 << 32}}, Fuel: 5},
		{Func: funcLoad, Args: []impl.Word{{Type: impl.TypeNone}}, Fuel: 5}, {Func: funcLoad, Args: []impl.Word{{}}, Fuel: 5},
		{Func: funcLoad, Args: []impl.Word{{Type: math.MinInt, Bits: math.MaxUint64}}, Fuel: 5},
		{Func: funcCount, Args: make([]impl.Word, 100000), Fuel: 5}, {Func: -1, Args: make([]impl.Word, 100000), Fuel: -1},
	}
	for _, c := range calls {
		for _, kind := range []impl.Instance{x, poisoned} {
			if got, o := checkCalled(t, kind, c); o != (impl.Outcome{Code: impl.RunBad}) || !sameInstance(got, kind) {
				t.Errorf("%s of %s: %s, %v", short(c), instanceText(kind), instanceText(got), o)
			}
		}
		for _, kind := range []impl.Instance{wrong, {}, {Poisoned: true}, {Module: x.Module}} {
			if got, o := checkCalled(t, kind, c); o != (impl.Outcome{Code: impl.RunBad}) || !sameInstance(got, impl.Instance{}) {
				t.Errorf("%s of one that is not good: %s, %v", short(c), instanceText(got), o)
			}
		}
	}
	wrong.Poisoned = true
	for _, kind := range []impl.Instance{wrong, {}, {Poisoned: true}} {
		if got, o := checkCalled(t, kind, callOf(funcCount, "", 10)); o != (impl.Outcome{Code: impl.RunBad}) || !sameInstance(got, impl.Instance{}) {
			t.Errorf("of one that is not good: %s, %v", instanceText(got), o)
		}
	}
}

// Modules without shape, and such with shape that CheckModule tells a fault of, also in a func that is never run.
func TestInstancesOfFaultyModules(t *testing.T) {
	modules := badModules()
	for _, body := range []string{"drop end", "i end", "br:1 end", "call:10 end", "I:1 gset:1 end", "f gset:0 end", "get:0 drop end", "i if:i end drop end", "gget:2 drop end"} {
		for _, at := range []int{funcCount, funcDeep, funcStart} {
			m := counter("end")
			m.Funcs[at] = funcOf(">", "", body)
			modules = append(modules, m)
			started := copyOf(m)
			started.Start = at
			modules = append(modules, started)
		}
	}
	noMemory := counter("")
	noMemory.Memory, noMemory.Pages, noMemory.Most = false, 0, 0
	modules = append(modules, noMemory)
	for _, m := range modules {
		if code, _, _ := impl.CheckModule(m); code == impl.CheckOk {
			t.Fatalf("no fault: %v", m)
		}
		for _, fuel := range []int{0, 10, impl.MaxFuel, -1} {
			if x, o := checkMade(t, m, fuel); o != (impl.Outcome{Code: impl.RunBad}) || !sameInstance(x, impl.Instance{}) {
				t.Errorf("%s: %s, %v", short(m), instanceText(x), o)
			}
		}
		for _, calls := range [][]impl.Call{nil, {callOf(0, "", 10)}, {{Func: -1}}} {
			if l, ok := impl.PlayCalls(m, calls); ok || len(l) != 0 {
				t.Errorf("%s: %v, %t", short(m), l, ok)
			}
		}
		s, _ := impl.FirstState(m)
		for _, x := range []impl.Instance{{Module: m, State: s}, {Module: m, State: s, Poisoned: true, Spent: 5}} {
			checkGood(t, x, false)
			checkCalled(t, x, callOf(0, "", 10))
		}
	}
}

// Instances whose state is not good for their module; any other state may stand there.
func TestInstanceStates(t *testing.T) {
	m := moduleOf(funcOf(">i", "", "gget:0 end"))
	for _, s := range badStates() {
		for _, poisoned := range []bool{false, true} {
			x := impl.Instance{Module: m, State: s, Poisoned: poisoned}
			checkGood(t, x, false)
			checkCalled(t, x, callOf(0, "", 10))
		}
	}
	none := bare("end")
	for _, memory := range []impl.Memory{{Max: 1}, {Max: 1, Data: strings.Repeat("\x00", 256)}, {Data: "\x00"}, {Max: -1}} {
		checkGood(t, impl.Instance{Module: none, State: impl.State{Memory: memory}}, false)
	}
	checkGood(t, impl.Instance{Module: none}, true)
	checkGood(t, impl.Instance{Module: none, State: impl.State{Globals: wordsOf("i:1")}}, false)
	for pages := range 3 {
		for _, poisoned := range []bool{false, true} {
			// a fixed one may have other Bits than the module's
			x := impl.Instance{Module: m, State: impl.State{Memory: impl.Memory{Max: 2, Data: strings.Repeat("\x05", 256*pages)}, Globals: wordsOf("i:-9 I:-8 f:7")}, Poisoned: poisoned}
			checkGood(t, x, true)
			if _, o := checkCalled(t, x, callOf(0, "", 10)); !poisoned && o.Value != wordOrNone("i:-9") {
				t.Error(o)
			}
		}
	}
}

// Any instances, right and wrong, are good where they are as said, and calls of them come to what the other runner says.
func TestAnyInstanceStates(t *testing.T) {
	r := rand.New(rand.NewSource(102))
	good := 0
	for range 2000 {
		x := anyInstance(r)
		if r.Intn(2) == 0 {
			x = spoiltInstance(r, x)
		}
		if wantGood(x) {
			good++
		}
		checkGood(t, x, wantGood(x))
		if len(x.Module.Funcs) > 0 {
			checkCalled(t, x, anyCall(r, x.Module))
			checkCalled(t, x, spoiltCall(r, anyCall(r, x.Module)))
		}
	}
	if good < 800 || good > 1600 {
		t.Error("too few or too many:", good)
	}
}
