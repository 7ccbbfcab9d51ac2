package tests

import (
	"fmt"
	"math/rand"
	"reflect"
	"slices"
	"strings"
	"testing"

	"loop.example/g00209/impl"
)

// told: what the functions of chapter 9 are given.
type told struct {
	a impl.Module
	b impl.Module
	f impl.Func
	s string
}

// answers: what every function of chapter 9 answers, as a text.
func (x told) answers() string {
	text := ""
	tell := func(l ...any) { text += fmt.Sprintln(l...) }
	s, ok := impl.ModuleBytes(x.a)
	tell(s, ok)
	m, code := impl.ReadModule(x.s)
	tell(m, code)
	m, code = impl.LoadModule(x.s)
	tell(m, code)
	s, ok = impl.FuncBytes(x.f)
	tell(s, ok)
	f, took := impl.TakeFunc(x.s)
	tell(f, took)
	same, ok := impl.SameModule(x.a, x.b)
	tell(same, ok)
	return text
}

// checkTold: they answer, in a way that fits, and write into nothing.
func checkTold(t *testing.T, x told) string {
	t.Helper()
	defer func() {
		if r := recover(); r != nil {
			t.Fatalf("panic at %.300v: %v", x, r)
		}
	}()
	kept := told{copyOf(x.a), copyOf(x.b), copyOf(impl.Module{Funcs: []impl.Func{x.f}}).Funcs[0], strings.Clone(x.s)}
	text := x.answers()
	if !reflect.DeepEqual(x, kept) {
		t.Fatalf("an argument has changed: %v, was %v", x, kept)
	}
	if s, ok := impl.ModuleBytes(x.a); ok && !impl.GoodShape(x.a) || ok != (s != "") || ok && !strings.HasPrefix(s, magic) || len(s) > 4+impl.MaxBytes {
		t.Fatalf("ModuleBytes(%v) = %x, %t", x.a, s, ok)
	}
	if s, ok := impl.FuncBytes(x.f); ok && !impl.GoodShape(impl.Module{Start: -1, Funcs: []impl.Func{x.f}}) || ok != (s != "") || len(s) > 900 {
		t.Fatalf("FuncBytes(%v) = %x, %t", x.f, s, ok)
	}
	if f, took := impl.TakeFunc(x.s); took < 0 || took > len(x.s) || took == 0 && !equalFuncs(f, impl.Func{}) {
		t.Fatalf("TakeFunc(%x) = %v, %d", x.s, f, took)
	}
	checkCodesFit(t, x.s)
	return text
}

// checkCodesFit: what is read is loaded just where CheckModule tells no fault; beside a code there is no module.
func checkCodesFit(t *testing.T, s string) {
	t.Helper()
	m, code := impl.ReadModule(s)
	loaded, loadCode := impl.LoadModule(s)
	fault, _, _ := impl.CheckModule(m)
	want := code
	if code == impl.LoadOk && fault != impl.CheckOk {
		want = impl.LoadCheck
	}
	if loadCode != want || loadCode == impl.LoadOk && !equalModules(m, loaded) || code < impl.LoadOk || code > impl.LoadForm {
		t.Fatalf("%x: read as %d, loaded as %d", s, code, loadCode)
	}
	if code == impl.LoadOk && !impl.GoodShape(m) || code != impl.LoadOk && !equalModules(m, impl.Module{}) || loadCode != impl.LoadOk && !equalModules(loaded, impl.Module{}) {
		t.Fatalf("%x: %v, %d; %v, %d", s, m, code, loaded, loadCode)
	}
}

// anyTold: right and wrong ones.
func anyTold(r *rand.Rand) told {
	x := told{a: anyShaped(r), b: anyShaped(r), f: funcOf("i>", "f", "end")}
	if len(x.a.Funcs) > 0 {
		x.f = x.a.Funcs[0]
		x.s = wantFunc(x.f)
	}
	if r.Intn(2) == 0 {
		x.s = wantModule(x.a)
	}
	if r.Intn(3) == 0 {
		x.b = copyOf(x.a)
	}
	if r.Intn(2) == 0 {
		x.s = anyWrong(r, x.s)
	}
	if r.Intn(2) == 0 && len(x.a.Funcs) > 0 {
		x.a = spoilt(r, x.a)
		x.f = x.a.Funcs[0]
	}
	return x
}

// Promise 19: every function answers at any arguments.
func TestModulesAnswerAtAnything(t *testing.T) {
	texts := []string{"", "\x00", magic, magic[:3], magic + "\x01", text(5000), magic + text(5000), strings.Repeat("\x80", 4004), magic + strings.Repeat("\xff", 4000),
		strings.Repeat("\x00", 100000), magic + strings.Repeat("\x00", 100000), "\x00\x40\x00\xff\xff\xff\xff\x0f" + strings.Repeat("\x01", 100000), "\xff\xff\xff\xff\x0f" + strings.Repeat("\x7f", 1000)}
	modules := append(badModules(), impl.Module{Start: -1}, manyFields())
	for i, a := range modules {
		for k, s := range texts {
			checkTold(t, told{a, modules[(i+k)%len(modules)], badFuncs()[(i+k)%len(badFuncs())], s})
		}
	}
	r := rand.New(rand.NewSource(95))
	for range 3000 {
		checkTold(t, anyTold(r))
		s := make([]byte, r.Intn(40))
		for i := range s {
			s[i] = byte(r.Intn(256)) >> r.Intn(8)
		}
		checkTold(t, told{s: string(s)})
		checkTold(t, told{s: magic + string(s)})
	}
}

// Promise 19: what lies behind a list's length is neither read nor written.
func TestModulesLeaveArguments(t *testing.T) {
	r := rand.New(rand.NewSource(96))
	for range 700 {
		x := anyTold(r)
		roomy := x
		roomy.a, roomy.b = withRoom(x.a), withRoom(x.b)
		roomy.f = withRoom(impl.Module{Funcs: []impl.Func{x.f}}).Funcs[0]
		kept := []impl.Module{copyOf(allOf(roomy.a)), copyOf(allOf(roomy.b)), copyOf(allOf(impl.Module{Funcs: []impl.Func{roomy.f}}))}
		if got, want := checkTold(t, roomy), checkTold(t, x); got != want {
			t.Fatalf("%v: %s, want %s", x, got, want)
		}
		if !reflect.DeepEqual([]impl.Module{allOf(roomy.a), allOf(roomy.b), allOf(impl.Module{Funcs: []impl.Func{roomy.f}})}, kept) {
			t.Fatalf("something behind a list's length has changed: %v", x)
		}
	}
}

// Promise 19: answers are new: what is done to one is not seen in another one, and no two lists of one share memory.
func TestModulesAreNew(t *testing.T) {
	m := manyFields()
	m.Funcs[3] = m.Funcs[2]
	s := wantModule(m)
	for _, read := range []func(string) (impl.Module, int){impl.ReadModule, impl.LoadModule} {
		one, _ := read(s)
		two, _ := read(s)
		for k := range one.Funcs {
			f := &one.Funcs[k]
			f.Params = append(f.Params, 1, 2, 3)
			f.Locals = append(f.Locals, 4, 5, 6)
			f.Body = append(f.Body, impl.Ins{Op: 7})
			clear(f.Params)
			clear(f.Locals)
			clear(f.Body)
			for behind := k + 1; behind < len(one.Funcs); behind++ {
				if !equalFuncs(one.Funcs[behind], m.Funcs[behind]) {
					t.Fatalf("funcs %d and %d share memory: %v", k, behind, one)
				}
			}
		}
		clear(one.Globals)
		clear(one.Funcs)
		three, code := read(s)
		if !equalModules(two, m) || !equalModules(three, m) || code != impl.LoadOk {
			t.Errorf("answers share memory: %v, %v", two, three)
		}
	}
	f, _ := impl.TakeFunc(wantFunc(m.Funcs[2]))
	clear(f.Params)
	clear(f.Body)
	if f, _ := impl.TakeFunc(wantFunc(m.Funcs[2])); !equalFuncs(f, m.Funcs[2]) {
		t.Error("funcs share memory:", f)
	}
	one, _ := impl.ModuleBytes(m)
	two, _ := impl.ModuleBytes(m)
	if sharesBytes(one, two) {
		t.Error("bytes lie in others")
	}
}

// Promise 19: the same call answers the same again, whatever was asked between, also at the same time.
func TestModulesKeepNothing(t *testing.T) {
	r := rand.New(rand.NewSource(97))
	var all []told
	var first []string
	for range 300 {
		x := anyTold(r)
		all, first = append(all, x), append(first, checkTold(t, x))
	}
	both := make(chan []string)
	for range 2 {
		go func() {
			var l []string
			for _, x := range all {
				l = append(l, x.answers())
			}
			both <- l
		}()
	}
	for range 2 {
		if again := <-both; !slices.Equal(again, first) {
			t.Error("answers differ")
		}
	}
	for i, x := range slices.Backward(all) {
		if again := checkTold(t, x); again != first[i] {
			t.Fatalf("%s, then %s", first[i], again)
		}
	}
}
