package tests

import (
	"math"
	"math/rand"
	"slices"
	"testing"

	"loop.example/g00209/impl"
)

// checkSame: held against each other both ways.
func checkSame(t *testing.T, a impl.Module, b impl.Module, want bool, wantOk bool) {
	t.Helper()
	for _, two := range [][2]impl.Module{{a, b}, {b, a}} {
		if same, ok := impl.SameModule(two[0], two[1]); same != want || ok != wantOk {
			t.Fatalf("SameModule(%v, %v) = %t, %t, want %t, %t", two[0], two[1], same, ok, want, wantOk)
		}
	}
}

// oneFieldOther: modules with shape that each differ from it in one field alone. It has to have two funcs that may be its
// Start, one of them with a local and an instruction that may be another, and a global of TypeI64.
func oneFieldOther(m impl.Module) map[string]impl.Module {
	others := map[string]impl.Module{}
	with := func(what string, change func(m *impl.Module)) {
		other := copyOf(m)
		change(&other)
		others[what] = other
	}
	with("another func", func(m *impl.Module) { m.Funcs = append(m.Funcs, funcOf(">", "", "end")) })
	with("a func less", func(m *impl.Module) { m.Funcs = m.Funcs[:len(m.Funcs)-1] })
	with("funcs in another order", func(m *impl.Module) { m.Funcs[0], m.Funcs[1] = m.Funcs[1], m.Funcs[0] })
	with("another global", func(m *impl.Module) { m.Globals = append(m.Globals, impl.Global{Type: impl.TypeI32}) })
	with("a global less", func(m *impl.Module) { m.Globals = m.Globals[:len(m.Globals)-1] })
	with("no globals", func(m *impl.Module) { m.Globals = nil })
	with("Fixed", func(m *impl.Module) { m.Globals[0].Fixed = !m.Globals[0].Fixed })
	with("Fixed of the last", func(m *impl.Module) { m.Globals[1].Fixed = !m.Globals[1].Fixed })
	with("Bits", func(m *impl.Module) { m.Globals[0].Bits ^= 1 << 63 })
	with("Bits of the last", func(m *impl.Module) { m.Globals[1].Bits ^= 1 << 31 })
	with("a global's Type", func(m *impl.Module) { m.Globals[1].Type = impl.TypeF32 })
	with("a global's Type of the first", func(m *impl.Module) { m.Globals[0].Type = impl.TypeI32 })
	with("a param", func(m *impl.Module) { m.Funcs[2].Params[1] = impl.TypeF32 })
	with("a param less", func(m *impl.Module) { m.Funcs[2].Params = m.Funcs[2].Params[:1] })
	with("a param more", func(m *impl.Module) { m.Funcs[2].Params = append(m.Funcs[2].Params, impl.TypeI32) })
	with("a local", func(m *impl.Module) { m.Funcs[1].Locals[0] = impl.TypeI64 })
	with("a local less", func(m *impl.Module) { m.Funcs[1].Locals = nil })
	with("a local more", func(m *impl.Module) { m.Funcs[1].Locals = append(m.Funcs[1].Locals, impl.TypeI32) })
	with("a local for a param", func(m *impl.Module) {
		f := &m.Funcs[2]
		f.Params, f.Locals = f.Params[:1], append([]int{f.Params[1]}, f.Locals...)
	})
	with("a Result", func(m *impl.Module) { m.Funcs[2].Result = impl.TypeF32 })
	with("no Result", func(m *impl.Module) { m.Funcs[2].Result = impl.TypeNone })
	with("an Op", func(m *impl.Module) { m.Funcs[2].Body[0].Op = impl.InTee })
	with("an A", func(m *impl.Module) { m.Funcs[2].Body[0].A = 1 })
	with("an instruction more", func(m *impl.Module) { m.Funcs[2].Body = append(codeOfWords("nop"), m.Funcs[2].Body...) })
	with("an instruction less", func(m *impl.Module) { m.Funcs[2].Body = m.Funcs[2].Body[1:] })
	with("instructions in another order", func(m *impl.Module) { slices.Reverse(m.Funcs[2].Body[:2]) })
	with("Pages", func(m *impl.Module) { m.Pages = 2 })
	with("Most", func(m *impl.Module) { m.Most = 8 })
	with("no Memory", func(m *impl.Module) { m.Memory, m.Pages, m.Most = false, 0, 0 })
	with("Start", func(m *impl.Module) { m.Start = 1 })
	with("no Start", func(m *impl.Module) { m.Start = -1 })
	return others
}

func manyFields() impl.Module {
	return impl.Module{
		Funcs:   []impl.Func{funcOf(">", "", "end"), funcOf(">", "f", "nop end"), funcOf("iI>i", "", "get:0 nop end"), funcOf("f>", "", "end")},
		Globals: []impl.Global{{Type: impl.TypeI64, Bits: 5}, {Type: impl.TypeI32, Fixed: true, Bits: 5}},
		Memory:  true, Pages: 1, Most: 7, Start: 0,
	}
}

// Promise 9: the same modules are told as the same, modules that differ in one field alone are told apart, and so are
// their bytes.
func TestSameModules(t *testing.T) {
	m := manyFields()
	checkSame(t, m, copyOf(m), true, true)
	all := oneFieldOther(m)
	all["itself"] = m
	for what, one := range all {
		for which, two := range all {
			checkSame(t, one, two, what == which, true)
			s, ok := impl.ModuleBytes(one)
			other, otherOk := impl.ModuleBytes(two)
			if (s == other) != (what == which) || !ok || !otherOk {
				t.Errorf("%s and %s: %x, %x", what, which, s, other)
			}
		}
	}
}

// Memory alone, with Pages and Most 0, is a difference; so are the numbers of Pages and Most, and the sign of Start.
func TestSameMemories(t *testing.T) {
	none := impl.Module{Start: -1}
	checkSame(t, none, impl.Module{Start: -1}, true, true)
	checkSame(t, none, impl.Module{Start: -1, Memory: true}, false, true)
	checkSame(t, impl.Module{Start: -1, Memory: true}, impl.Module{Start: -1, Memory: true, Most: 1}, false, true)
	checkSame(t, impl.Module{Start: -1, Memory: true, Most: 1}, impl.Module{Start: -1, Memory: true, Pages: 1, Most: 1}, false, true)
	one := impl.Module{Start: -1, Funcs: []impl.Func{funcOf(">", "", "end")}}
	started := copyOf(one)
	started.Start = 0
	checkSame(t, one, started, false, true)
	checkSame(t, one, none, false, true)
}

// The empty list and the nil list are the same.
func TestSameEmptyLists(t *testing.T) {
	empty := impl.Module{Start: -1, Funcs: []impl.Func{}, Globals: []impl.Global{}}
	checkSame(t, empty, impl.Module{Start: -1}, true, true)
	f := impl.Func{Params: []int{}, Result: impl.TypeNone, Locals: []int{}, Body: codeOfWords("end")}
	a := impl.Module{Start: 0, Funcs: []impl.Func{f}}
	b := impl.Module{Start: 0, Funcs: []impl.Func{{Result: impl.TypeNone, Body: codeOfWords("end")}}, Globals: []impl.Global{}}
	checkSame(t, a, b, true, true)
	checkModule(t, a, wantModule(b))
	checkModule(t, b, wantModule(a))
	checkModule(t, empty, magic)
}

// Modules that have no bytes are held against each other all the same: shape is all that is asked for.
func TestSameLongModules(t *testing.T) {
	long := impl.Module{Start: -1, Funcs: slices.Repeat([]impl.Func{longFunc(t, 980)}, 10)}
	other := copyOf(long)
	checkModule(t, long, "")
	checkSame(t, long, other, true, true)
	other.Funcs[9].Body[150].A--
	checkSame(t, long, other, false, true)
}

// badModules: modules without shape.
func badModules() []impl.Module {
	l := []impl.Module{
		{}, {Start: -2}, {Start: math.MinInt}, {Start: math.MaxInt}, {Start: -1, Pages: 1, Most: 1}, {Start: -1, Most: -1}, {Start: -1, Memory: true, Pages: -1},
		{Start: -1, Memory: true, Pages: 2, Most: 1}, {Start: -1, Memory: true, Most: 9}, {Start: -1, Memory: true, Pages: math.MinInt, Most: math.MaxInt},
		{Start: -1, Globals: []impl.Global{{}}}, {Start: -1, Globals: []impl.Global{{Type: impl.TypeNone}}}, {Start: -1, Globals: []impl.Global{{Type: 256 + 127}}},
		{Start: -1, Globals: []impl.Global{{Type: -129}}}, {Start: -1, Globals: []impl.Global{{Type: impl.TypeI32, Bits: 1 << 32}}},
		{Start: -1, Globals: make([]impl.Global, 100000)}, {Start: -1, Funcs: make([]impl.Func, 100000)}, {Start: 99999, Funcs: make([]impl.Func, 100000)},
		{Start: -1, Globals: slices.Repeat([]impl.Global{{Type: impl.TypeI32}}, 7)},
	}
	for _, f := range badFuncs() {
		l = append(l, impl.Module{Start: -1, Funcs: []impl.Func{f}}, impl.Module{Start: 0, Funcs: []impl.Func{funcOf(">", "", "end"), f}})
	}
	return l
}

// badFuncs: funcs that may not be in a module with shape.
func badFuncs() []impl.Func {
	body := codeOfWords("unreachable end")
	l := []impl.Func{
		{}, {Result: impl.TypeNone}, {Body: body}, {Result: math.MinInt, Body: body}, {Result: 256 + 64, Body: body}, {Result: -128 + 64, Body: body},
		{Params: []int{impl.TypeNone}, Result: impl.TypeNone, Body: body}, {Locals: []int{impl.TypeNone}, Result: impl.TypeNone, Body: body},
		{Params: []int{256 + 127}, Result: impl.TypeNone, Body: body}, {Locals: []int{math.MaxInt}, Result: impl.TypeNone, Body: body},
		{Params: slices.Repeat([]int{impl.TypeI32}, 7), Result: impl.TypeI32, Body: body}, {Locals: slices.Repeat([]int{impl.TypeI32}, 21), Result: impl.TypeI32, Body: body},
		{Params: make([]int, 100000), Locals: make([]int, 100000), Result: impl.TypeI32, Body: body},
	}
	for _, body := range [][]impl.Ins{
		codeOfWords("nop"), codeOfWords("end end"), codeOfWords("block end"), codeOfWords("else end"), codeOfWords("i if else else end end"),
		{{Op: impl.InEnd, A: 1}}, {{Op: 6}, {Op: impl.InEnd}}, {{Op: 256 + 11}}, {{Op: impl.InCall, A: 1001}, {Op: impl.InEnd}},
		{{Op: math.MinInt, A: math.MinInt}, {Op: impl.InEnd}}, slices.Repeat(codeOfWords("end"), 100000),
		append(slices.Repeat(codeOfWords("nop"), 200), impl.Ins{Op: impl.InEnd}),
	} {
		l = append(l, impl.Func{Result: impl.TypeNone, Body: body})
	}
	return l
}

// Wrong inputs: modules of which one or both have no shape, also one held against itself; they and their funcs have no
// bytes.
func TestModulesWithoutShape(t *testing.T) {
	good := []impl.Module{{Start: -1}, manyFields()}
	for _, bad := range badModules() {
		checkModule(t, bad, "")
		checkSame(t, bad, bad, false, false)
		for _, m := range good {
			checkSame(t, bad, m, false, false)
		}
	}
	for _, f := range badFuncs() {
		checkFunc(t, f, "")
	}
	checkSame(t, badModules()[0], badModules()[1], false, false)
}

// Promise 9: any modules are the same where all their fields are.
func TestAnySame(t *testing.T) {
	r := rand.New(rand.NewSource(94))
	for range 1500 {
		a := anyShaped(r)
		checkSame(t, a, copyOf(a), true, true)
		b := copyOf(a)
		if len(a.Funcs) > 0 {
			b = spoilt(r, changed(r, a))
		}
		wantOk := impl.GoodShape(b)
		checkSame(t, a, b, wantOk && equalModules(a, b), wantOk)
		c := anyShaped(r)
		checkSame(t, a, c, equalModules(a, c), true)
	}
}
