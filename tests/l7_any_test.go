package tests

import (
	"fmt"
	"math"
	"math/rand"
	"reflect"
	"slices"
	"testing"

	"loop.example/g00209/impl"
)

// copyOf: the same module in memory of its own.
func copyOf(m impl.Module) impl.Module {
	m.Funcs = slices.Clone(m.Funcs)
	for k, f := range m.Funcs {
		m.Funcs[k] = impl.Func{Params: slices.Clone(f.Params), Result: f.Result, Locals: slices.Clone(f.Locals), Body: slices.Clone(f.Body)}
	}
	m.Globals = slices.Clone(m.Globals)
	return m
}

// checkAnswers: what every function of chapter 7 answers, as a text; fails where one panics, where they do not fit each
// other, or where one writes into what it was given.
func checkAnswers(t *testing.T, m impl.Module, k int) string {
	t.Helper()
	defer func() {
		if r := recover(); r != nil {
			t.Fatalf("panic at %.300v, %d: %v", m, k, r)
		}
	}()
	kept := copyOf(m)
	shape := impl.GoodShape(m)
	code, at := impl.CheckFunc(m, k)
	all, which, where := impl.CheckModule(m)
	high, ok := impl.HighestOf(m, k)
	if !reflect.DeepEqual(m, kept) {
		t.Fatalf("the argument has changed: %v, was %v", m, kept)
	}
	isFunc := shape && k >= 0 && k < len(m.Funcs)
	if isFunc == (code == impl.CheckForm) || code < 0 || code > impl.CheckFixed || at < 0 || at > 0 && code < impl.CheckStack || isFunc && at >= len(m.Funcs[k].Body) {
		t.Fatalf("CheckFunc(%v, %d) = %d, %d, shape %t", m, k, code, at, shape)
	}
	if shape == (all == impl.CheckForm) || all <= impl.CheckForm && (which != 0 || where != 0) {
		t.Fatalf("CheckModule(%v) = %d, %d, %d, shape %t", m, all, which, where, shape)
	}
	if all > impl.CheckForm && isFunc && (which > k && code != impl.CheckOk || which == k && (code != all || at != where)) {
		t.Fatalf("CheckModule(%v) = %d, %d, %d, but func %d: %d, %d", m, all, which, where, k, code, at)
	}
	if ok != (code == impl.CheckOk) || !ok && high != 0 || ok && (high < 0 || high >= len(m.Funcs[k].Body)) {
		t.Fatalf("HighestOf(%v, %d) = %d, %t, code %d", m, k, high, ok, code)
	}
	return fmt.Sprint(shape, code, at, all, which, where, high, ok)
}

// spoilt: one thing in it changed into anything.
func spoilt(r *rand.Rand, m impl.Module) impl.Module {
	m = copyOf(m)
	n := anyPlace(r)
	k := r.Intn(len(m.Funcs))
	f := &m.Funcs[k]
	switch r.Intn(12) {
	case 0:
		m.Start = n
	case 1:
		m.Pages = n
	case 2:
		m.Most = n
	case 3:
		m.Memory = !m.Memory
	case 4:
		f.Result = n
	case 5:
		f.Params = append(f.Params, n)
	case 6:
		f.Locals = append(f.Locals, n)
	case 7:
		m.Globals = append(m.Globals, impl.Global{Type: n, Bits: anyWord(r)})
	case 8:
		m.Globals = append(m.Globals, impl.Global{Type: impl.TypeF32, Bits: anyWord(r)})
	case 9:
		f.Body = append(f.Body, anyBadIns(r))
	case 10:
		f.Body = slices.Insert(f.Body, r.Intn(len(f.Body)+1), anyBadIns(r))
	default:
		m.Funcs = append(m.Funcs, *f)
	}
	return m
}

// Promise 19: every function answers at any arguments.
func TestChecksAnswerAtAnything(t *testing.T) {
	huge := make([]impl.Func, 100000)
	deep := funcOf(">", "", "end")
	deep.Body = slices.Repeat([]impl.Ins{{Op: impl.InBlock, A: 64}}, 100000)
	modules := []impl.Module{
		{}, {Start: -1}, {Start: math.MinInt}, {Start: math.MaxInt, Pages: math.MaxInt, Most: math.MinInt, Memory: true},
		{Funcs: huge}, {Funcs: huge, Start: -1}, {Funcs: huge, Start: 99999}, {Start: -1, Funcs: []impl.Func{{}}}, {Funcs: []impl.Func{{}}},
		{Start: -1, Funcs: []impl.Func{deep}}, {Start: -1, Globals: make([]impl.Global, 100000)},
		{Start: -1, Funcs: []impl.Func{{Params: make([]int, 100000), Locals: []int{math.MinInt}, Result: math.MaxInt, Body: codeOfWords("end")}}},
	}
	for _, m := range modules {
		for _, k := range anyInts() {
			checkAnswers(t, m, k)
		}
	}
	r := rand.New(rand.NewSource(74))
	for range 3000 {
		m := anyTyped(r)
		checkAnswers(t, m, r.Intn(len(m.Funcs)))
		for range 4 {
			m = spoilt(r, m)
			checkAnswers(t, m, r.Intn(len(m.Funcs)))
			checkAnswers(t, m, anyPlace(r))
		}
	}
}

// Promise 19: each single instruction, good or not, with nothing on the stack, with all types there, and in a dead block.
func TestChecksAnswerAtEveryInstruction(t *testing.T) {
	for _, op := range edgeOps() {
		for _, a := range edgeA() {
			for _, ahead := range []string{"", "f I i i i", "unreachable"} {
				f := funcOf("iIf>", "iIf", ahead)
				f.Body = append(f.Body, impl.Ins{Op: op, A: a}, impl.Ins{Op: impl.InEnd})
				checkAnswers(t, impl.Module{Start: -1, Funcs: []impl.Func{f}, Globals: []impl.Global{{Type: impl.TypeI32}}}, 0)
			}
		}
	}
}

// withRoom: the same module, each list of it with something behind its length.
func withRoom(m impl.Module) impl.Module {
	m = copyOf(m)
	for k, f := range m.Funcs {
		m.Funcs[k].Params = append(f.Params, 7, 8)[:len(f.Params)]
		m.Funcs[k].Locals = append(f.Locals, 7, 8)[:len(f.Locals)]
		m.Funcs[k].Body = append(f.Body, impl.Ins{Op: 11}, impl.Ins{Op: -1})[:len(f.Body)]
	}
	m.Funcs = append(m.Funcs, impl.Func{Result: -1}, impl.Func{})[:len(m.Funcs)]
	m.Globals = append(m.Globals, impl.Global{Type: -1}, impl.Global{})[:len(m.Globals)]
	return m
}

// allOf: the same module with what lies behind the lengths of its lists.
func allOf(m impl.Module) impl.Module {
	m.Funcs = slices.Clone(m.Funcs[:cap(m.Funcs)])
	for k, f := range m.Funcs {
		m.Funcs[k] = impl.Func{Params: f.Params[:cap(f.Params)], Result: f.Result, Locals: f.Locals[:cap(f.Locals)], Body: f.Body[:cap(f.Body)]}
	}
	m.Globals = m.Globals[:cap(m.Globals)]
	return m
}

// Promise 19: what lies behind a list's length is neither read nor written.
func TestChecksLeaveArguments(t *testing.T) {
	r := rand.New(rand.NewSource(75))
	for range 1000 {
		m := anyTyped(r)
		if r.Intn(2) == 0 {
			m = changed(r, m)
		}
		k := r.Intn(len(m.Funcs))
		roomy := withRoom(m)
		kept := copyOf(allOf(roomy))
		if got, want := checkAnswers(t, roomy, k), checkAnswers(t, m, k); got != want {
			t.Fatalf("%v: %s, want %s", m, got, want)
		}
		if !reflect.DeepEqual(allOf(roomy), kept) {
			t.Fatalf("something behind a list's length has changed: %v", m)
		}
	}
}

// Promise 19: the same call answers the same again, whatever was asked between, also at the same time.
func TestChecksKeepNothing(t *testing.T) {
	r := rand.New(rand.NewSource(76))
	for range 500 {
		m := changed(r, anyTyped(r))
		k := r.Intn(len(m.Funcs))
		first := checkAnswers(t, m, k)
		checkAnswers(t, spoilt(r, m), k)
		both := make(chan string)
		for range 2 {
			go func() {
				code, at := impl.CheckFunc(m, k)
				all, which, where := impl.CheckModule(m)
				high, ok := impl.HighestOf(m, k)
				both <- fmt.Sprint(impl.GoodShape(m), code, at, all, which, where, high, ok)
			}()
		}
		for _, again := range []string{checkAnswers(t, m, k), <-both, <-both} {
			if again != first {
				t.Fatalf("%s, then %s", first, again)
			}
		}
	}
}
