package tests

import (
	"math/rand"
	"slices"
	"testing"

	"loop.example/g00209/impl"
)

// Promise 10: instances with and without a Start: the state, whether they are Poisoned, what was Spent, and the outcome,
// written out.
func TestInstancesWrittenOut(t *testing.T) {
	trap := func(trap int, left int) impl.Outcome {
		return impl.Outcome{Code: impl.RunTrap, Trap: trap, Left: left}
	}
	for _, c := range []struct {
		start string
		fuel  int
		want  impl.Outcome
		text  string
	}{
		{"", 0, impl.Outcome{}, "p1 g1=ffffffffffffffff poisoned false spent 0"},
		{"", 7, impl.Outcome{Left: 7}, "p1 g1=ffffffffffffffff poisoned false spent 0"},
		{"", impl.MaxFuel, impl.Outcome{Left: impl.MaxFuel}, "p1 g1=ffffffffffffffff poisoned false spent 0"},

		// a Start that ends well
		{"end", 1, impl.Outcome{}, "p1 g1=ffffffffffffffff poisoned false spent 1"},
		{"end", 10, impl.Outcome{Left: 9}, "p1 g1=ffffffffffffffff poisoned false spent 1"},
		{"call:0 drop end", 10, impl.Outcome{Left: 1}, "p1 g0=1 g1=ffffffffffffffff poisoned false spent 9"},
		{"i:8 i:513 store32 i:1 grow drop end", 10, impl.Outcome{Left: 3}, "p2 g1=ffffffffffffffff m8=1 m9=2 poisoned false spent 7"},
		{"i:5 gset:0 return end", 10, impl.Outcome{Left: 7}, "p1 g0=5 g1=ffffffffffffffff poisoned false spent 3"},

		// one that traps: what was done stays
		{"unreachable end", 10, trap(impl.TrapUnreachable, 9), "p1 g1=ffffffffffffffff poisoned true spent 1"},
		{"unreachable end", 1, trap(impl.TrapUnreachable, 0), "p1 g1=ffffffffffffffff poisoned true spent 1"},
		{"i:5 gset:0 i:1 i:0 i32+4 drop end", 10, trap(impl.TrapDivision, 5), "p1 g0=5 g1=ffffffffffffffff poisoned true spent 5"},
		{"i:-2147483648 i:-1 i32+4 drop end", 10, trap(impl.TrapRange, 7), "p1 g1=ffffffffffffffff poisoned true spent 3"},
		{"i:4 i:7 store32 i:2 grow drop i:765 load32 drop end", 10, trap(impl.TrapBounds, 2), "p3 g1=ffffffffffffffff m4=7 poisoned true spent 8"},
		{"call:8 end", 100, trap(impl.TrapDepth, 79), "p1 g1=ffffffffffffffff poisoned true spent 21"},

		// one that has no more fuel
		{"end", 0, impl.Outcome{Code: impl.RunFuel}, "p1 g1=ffffffffffffffff poisoned true spent 0"},
		{"i:5 gset:0 end", 2, impl.Outcome{Code: impl.RunFuel}, "p1 g0=5 g1=ffffffffffffffff poisoned true spent 2"},
		{"unreachable end", 0, impl.Outcome{Code: impl.RunFuel}, "p1 g1=ffffffffffffffff poisoned true spent 0"},
		{"call:6 end", 12, impl.Outcome{Code: impl.RunFuel}, "p1 g0=2 g1=ffffffffffffffff poisoned true spent 12"},
		{"call:6 end", impl.MaxFuel, impl.Outcome{Code: impl.RunFuel}, "p1 g0=3e7 g1=ffffffffffffffff poisoned true spent 5000"},
	} {
		m := counter(c.start)
		x, o := checkMade(t, m, c.fuel)
		if o != c.want || instanceText(x) != c.text || !equalModules(x.Module, m) {
			t.Errorf("%s, fuel %d: %s, %v, want %s, %v", c.start, c.fuel, instanceText(x), o, c.text, c.want)
		}
	}
}

// Promise 10: modules with neither memory nor globals, with one of both, and with nothing at all.
func TestInstancesOfSmallModules(t *testing.T) {
	checkMade(t, impl.Module{Start: -1}, 5)
	checkMade(t, bare("end"), 5)
	started := bare("unreachable end")
	started.Start = 0
	checkMade(t, started, 5)
	for _, m := range []impl.Module{
		{Start: -1, Memory: true}, {Start: -1, Memory: true, Most: 8}, {Start: -1, Memory: true, Pages: 8, Most: 8},
		{Start: -1, Globals: []impl.Global{{Type: impl.TypeF32, Bits: 7}}},
	} {
		x, o := checkMade(t, m, 3)
		if o != (impl.Outcome{Left: 3}) || len(x.State.Memory.Data) != 256*m.Pages || x.State.Memory.Max != m.Most {
			t.Errorf("%v: %s, %v", m, instanceText(x), o)
		}
		checkCalled(t, x, impl.Call{Fuel: 3})
	}
	x, o := checkCalled(t, made(t, bare("end")), impl.Call{Fuel: 3})
	if o != (impl.Outcome{Left: 2}) || instanceText(x) != "p0 poisoned false spent 1" {
		t.Error(instanceText(x), o)
	}
}

// Promise 10: calls in a row, each of which sees what the one ahead of it left; one that is refused leaves all as it is;
// behind one that does not end well nothing is done any more.
func TestInstanceCallsWrittenOut(t *testing.T) {
	bad := impl.Outcome{Code: impl.RunBad}
	poison := impl.Outcome{Code: impl.RunTrap, Trap: impl.TrapPoisoned}
	told := func(value string) impl.Outcome { return impl.Outcome{Value: wordOrNone(value)} }
	type row struct {
		k    int
		args string
		fuel int
		want impl.Outcome
		left int
		text string
	}
	ahead := []row{
		{funcCount, "", 6, told("i:1"), 0, "p1 g0=1 poisoned false spent 6"},
		{funcCount, "", 100, told("i:2"), 94, "p1 g0=2 poisoned false spent 12"},
		{funcStore, "i:252 i:258", 100, told(""), 96, "p1 g0=2 m252=2 m253=1 poisoned false spent 16"},
		{funcLoad, "i:250", 100, told("i:16908288"), 97, "p1 g0=2 m252=2 m253=1 poisoned false spent 19"},
		{funcGrow, "i:1", 100, told("i:1"), 97, "p2 g0=2 m252=2 m253=1 poisoned false spent 22"},
		{funcLoad, "i:253", 100, told("i:1"), 97, "p2 g0=2 m252=2 m253=1 poisoned false spent 25"},
		{funcGrow, "i:2", 100, told("i:-1"), 97, "p2 g0=2 m252=2 m253=1 poisoned false spent 28"},
		{funcCount, "i:1", 100, bad, 0, "p2 g0=2 m252=2 m253=1 poisoned false spent 28"},
		{funcCount, "", 100, told("i:3"), 94, "p2 g0=3 m252=2 m253=1 poisoned false spent 34"},
		{funcStore, "i:252 i:0", 4, told(""), 0, "p2 g0=3 poisoned false spent 38"},
		{funcThird, "i:1 I:-1 f:7", 2, told("f:7"), 0, "p2 g0=3 poisoned false spent 40"},
		{funcDivide, "i:2", 100, told("i:1"), 96, "p2 g0=3 poisoned false spent 44"},
	}
	for _, last := range []row{
		{funcDivide, "i:0", 100, impl.Outcome{Code: impl.RunTrap, Trap: impl.TrapDivision}, 97, "p2 g0=3 poisoned true spent 47"},
		{funcDie, "", 100, impl.Outcome{Code: impl.RunTrap, Trap: impl.TrapUnreachable}, 91, "p2 g0=4 poisoned true spent 53"},
		{funcDie, "", 9, impl.Outcome{Code: impl.RunTrap, Trap: impl.TrapUnreachable}, 0, "p2 g0=4 poisoned true spent 53"},
		{funcDie, "", 8, impl.Outcome{Code: impl.RunFuel}, 0, "p2 g0=4 poisoned true spent 52"},
		{funcLoad, "i:509", 100, impl.Outcome{Code: impl.RunTrap, Trap: impl.TrapBounds}, 98, "p2 g0=3 poisoned true spent 46"},
		{funcLoop, "", 12, impl.Outcome{Code: impl.RunFuel}, 0, "p2 g0=5 poisoned true spent 56"},
		{funcDeep, "", 100, impl.Outcome{Code: impl.RunTrap, Trap: impl.TrapDepth}, 79, "p2 g0=3 poisoned true spent 65"},
		{funcCount, "", 0, impl.Outcome{Code: impl.RunFuel}, 0, "p2 g0=3 poisoned true spent 44"},
	} {
		behind := []row{
			{funcCount, "", 100, poison, 100, last.text},
			{funcDie, "", 0, poison, 0, last.text},
			{funcLoop, "", impl.MaxFuel, poison, impl.MaxFuel, last.text},
			{funcCount, "", impl.MaxFuel + 1, bad, 0, last.text},
			{funcThird, "i:1 I:-1", 5, bad, 0, last.text},
			{funcStore, "i:0 i:1", 5, poison, 5, last.text},
		}
		m := counter("")
		m.Globals[1].Bits = 0
		x := made(t, m)
		var calls []impl.Call
		var outcomes []impl.Outcome
		for _, c := range slices.Concat(ahead, []row{last}, behind) {
			call := callOf(c.k, c.args, c.fuel)
			want := c.want
			want.Left = c.left
			var o impl.Outcome
			x, o = checkCalled(t, x, call)
			if o != want || instanceText(x) != c.text {
				t.Fatalf("%v: %s, %v, want %s, %v", c, instanceText(x), o, c.text, want)
			}
			calls, outcomes = append(calls, call), append(outcomes, want)
		}
		if got := checkPlayed(t, m, calls); !slices.Equal(got, outcomes) {
			t.Errorf("PlayCalls: %v, want %v", got, outcomes)
		}
	}
}

// Promise 10: an instance that did not end well once does nothing any more, however that was and whatever is called.
func TestPoisonStays(t *testing.T) {
	var ends []impl.Instance
	for _, start := range []string{"unreachable end", "call:5 end", "call:6 end", "call:8 end", "i:0 call:4 drop end", "i:999 call:2 drop end", "f:2139095040 toint drop end"} {
		x, o := checkMade(t, counter(start), 100)
		if o.Code == impl.RunOk {
			t.Fatal(start, o)
		}
		ends = append(ends, x)
	}
	for _, c := range []impl.Call{callOf(funcDivide, "i:0", 50), callOf(funcDie, "", 50), callOf(funcLoop, "", 50), callOf(funcDeep, "", 50), callOf(funcLoad, "i:-1", 50), callOf(funcCount, "", 5)} {
		x, o := checkCalled(t, made(t, counter("")), c)
		if o.Code == impl.RunOk {
			t.Fatal(c, o)
		}
		ends = append(ends, x)
	}
	for _, end := range ends {
		if !end.Poisoned {
			t.Fatal(instanceText(end))
		}
		x := end
		for i := range 50 {
			c := []impl.Call{callOf(funcCount, "", i), callOf(funcStore, "i:0 i:1", i), callOf(funcGrow, "i:1", impl.MaxFuel), callOf(funcDie, "", i), callOf(funcLoop, "", 0)}[i%5]
			var o impl.Outcome
			x, o = checkCalled(t, x, c)
			if o != (impl.Outcome{Code: impl.RunTrap, Trap: impl.TrapPoisoned, Left: c.Fuel}) || !sameInstance(x, end) {
				t.Fatalf("%v: %s, %v, was %s", c, instanceText(x), o, instanceText(end))
			}
		}
	}
}

// Promise 10: a Start that does not end well poisons ahead of the first call of PlayCalls, which tells true all the same.
func TestPlayedBehindAPoisonedStart(t *testing.T) {
	calls := []impl.Call{callOf(funcCount, "", 10), callOf(funcCount, "i:1", 10), callOf(funcDie, "", impl.MaxFuel)}
	want := []impl.Outcome{{Code: impl.RunTrap, Trap: impl.TrapPoisoned, Left: 10}, {Code: impl.RunBad}, {Code: impl.RunTrap, Trap: impl.TrapPoisoned, Left: impl.MaxFuel}}
	for _, start := range []string{"unreachable end", "call:6 end", "call:5 end"} {
		if got := checkPlayed(t, counter(start), calls); !slices.Equal(got, want) {
			t.Errorf("%s: %v", start, got)
		}
		checkPlayed(t, counter(start), nil)
	}
	// one that ends well is seen by the calls, and is told by none of the outcomes
	got := checkPlayed(t, counter("i:6 gset:0 end"), []impl.Call{callOf(funcCount, "", 10), callOf(funcDivide, "i:7", 10)})
	if !slices.Equal(got, []impl.Outcome{{Value: wordOrNone("i:7"), Left: 4}, {Value: wordOrNone("i:1"), Left: 6}}) {
		t.Error(got)
	}
}

// Promise 10: any modules and any calls come to what the other runner says, one by one and played; each call that is not
// refused and does not end well is the last one that does anything; Spent is the sum of what was taken.
func TestAnyInstances(t *testing.T) {
	r := rand.New(rand.NewSource(101))
	met, poisoned := [5]int{}, 0
	for range 1500 {
		m := anyStarted(r)
		x, o := checkMade(t, m, []int{r.Intn(20), impl.MaxFuel}[r.Intn(2)])
		dead, spent := o.Code != impl.RunOk, x.Spent
		var calls []impl.Call
		for range r.Intn(8) {
			c := anyCall(r, m)
			if r.Intn(5) == 0 {
				c = spoiltCall(r, c)
			}
			was := x
			x, o = checkCalled(t, x, c)
			if (dead || o.Code == impl.RunBad) && (!sameInstance(x, was) || o.Code == impl.RunOk) || !dead && o.Trap == impl.TrapPoisoned || o.Code == impl.RunStuck {
				t.Fatalf("%v of %s: %s, %v", c, instanceText(was), instanceText(x), o)
			}
			if !dead && o.Code != impl.RunBad {
				dead, spent = o.Code != impl.RunOk, spent+c.Fuel-o.Left
			}
			met[o.Code]++
			if o.Trap == impl.TrapPoisoned {
				poisoned++
			}
			calls = append(calls, c)
		}
		if x.Spent != spent || x.Poisoned != dead {
			t.Fatalf("%s, want spent %d, poisoned %t", instanceText(x), spent, dead)
		}
		checkPlayed(t, m, calls)
	}
	if met[impl.RunOk] < 500 || met[impl.RunBad] < 100 || met[impl.RunFuel] < 50 || met[impl.RunTrap]-poisoned < 100 || poisoned < 500 {
		t.Error("too few of a kind:", met, poisoned)
	}
}
