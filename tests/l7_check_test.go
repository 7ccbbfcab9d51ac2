package tests

import (
	"math/rand"
	"slices"
	"strings"
	"testing"

	"loop.example/g00209/impl"
)

// checkTyped: what is told of a func is this, and of one without a fault how high it becomes. (0, false beside a fault.)
func checkTyped(t *testing.T, m impl.Module, k int, code int, at int, high int) {
	t.Helper()
	if gotCode, gotAt := impl.CheckFunc(m, k); gotCode != code || gotAt != at {
		t.Fatalf("CheckFunc(%v, %d) = %d, %d, want %d, %d", m, k, gotCode, gotAt, code, at)
	}
	if got, ok := impl.HighestOf(m, k); got != high || ok != (code == impl.CheckOk) {
		t.Fatalf("HighestOf(%v, %d) = %d, %t, want %d, code %d", m, k, got, ok, high, code)
	}
}

// checkAsRead: what is told of every func is what the reader says, and of the module what it says of the first fault.
func checkAsRead(t *testing.T, m impl.Module) int {
	t.Helper()
	code, which, at := impl.CheckOk, 0, 0
	for k := range m.Funcs {
		own, ownAt, high := wantChecked(m, k)
		checkTyped(t, m, k, own, ownAt, high)
		if code == impl.CheckOk && own != impl.CheckOk {
			code, which, at = own, k, ownAt
		}
	}
	if gotCode, gotWhich, gotAt := impl.CheckModule(m); gotCode != code || gotWhich != which || gotAt != at {
		t.Fatalf("CheckModule(%v) = %d, %d, %d, want %d, %d, %d", m, gotCode, gotWhich, gotAt, code, which, at)
	}
	return code
}

// Promise 7: funcs without a fault, and how high they become, written out.
func TestWellTypedWrittenOut(t *testing.T) {
	for _, c := range []struct {
		sign, locals, body string
		high               int
	}{
		{">", "", "end", 0},
		{">", "", "nop nop end", 0},
		{">i", "", "i end", 1},
		{">I", "", "I end", 1},
		{">f", "", "f end", 1},
		{"iI>i", "", "get:0 end", 1},
		{"iI>I", "", "get:1 end", 1},
		{"iI>f", "fI", "get:2 end", 1},
		{"iI>I", "fI", "get:3 end", 1},
		{"i>", "I", "I set:1 get:0 drop end", 1},
		{"i>I", "I", "I tee:1 end", 1},
		{">", "", "i I f drop drop drop end", 3},
		{">i", "", "i i i i i i32+1 i32+1 i32+1 i32+1 end", 5},

		// blocks, one within the other, with types and without
		{">", "", "block end loop end i if end end", 1},
		{">i", "", "block:i loop:i i end end end", 1},
		{">I", "", "I block:f f end drop end", 2},
		{">", "", "i I f block i i drop drop end drop drop drop end", 5},
		{">f", "", "i if:f f else f end end", 1},
		{">f", "", "i if:f i if:f f else f end else f end end", 1},
		{">", "", "i if i drop else i i drop drop end end", 2},
		{">i", "", "i i if:i i else i end i32+1 end", 2},
		{">", "", "i if else end end", 1},

		// branches
		{">i", "", "block:i i br:0 end end", 1},
		{">i", "", "i br:0 end", 1},
		{">i", "", "block:f i br:1 end drop i end", 1},
		{">i", "", "loop:i br:0 end end", 1},
		{">i", "", "loop:i i i brif:0 end end", 2},
		{">i", "", "block:i i i brif:0 end end", 2},
		{">I", "", "block block block I br:3 end end end I end", 1},
		{">I", "", "block block block I i brif:3 drop i brif:2 i brif:1 i brif:0 end end end I end", 2},
		{">", "", "i if br:0 else br:1 end end", 1},
		{">", "", "loop block i brif:1 i brif:0 br:2 end end end", 1},
		{">i", "", "i I f i return end", 4},
		{">", "", "i I f return end", 3},
		{">", "", "block loop i if return end br:0 end end end", 1},

		// choosing
		{">I", "", "I I i select end", 3},
		{">f", "", "i drop f f i select i drop end", 3},

		// calls
		{">", "", "call:0 call:1 end", 0},
		{">I", "", "i I f call:2 end", 3},
		{">", "", "f call:3 end", 1},
		{"f>f", "", "get:0 call:0 call:0 end", 1},

		// globals and the memory
		{">i", "", "gget:0 gset:0 gget:1 drop gget:2 gset:2 i end", 1},
		{">", "", "i load32 drop i load64:10000 drop i i store32 i I store64 size drop i grow drop end", 2},
		{">I", "", "size grow load64 end", 1},

		// numbers
		{">i", "", "I I i64+16 end", 2},
		{">i", "", "I i64+25 i32+25 end", 1},
		{">I", "", "i extends wrap extendu end", 1},
		{">i", "", "i tofloat f32+6 f f32+5 toint end", 2},
		{">i", "", "f f f32+9 end", 2},

		// dead blocks
		{">i", "", "unreachable end", 0},
		{">i", "", "unreachable i32+1 end", 1},
		{">I", "", "I return end", 1},
		{">I", "", "I return i64+1 end", 1},
		{">I", "", "I br:0 drop drop drop end", 1},
		{">", "", "unreachable call:2 wrap tofloat f32+6 drop end", 1},
		{">I", "", "unreachable call:2 end", 1},
		{">f", "", "unreachable select end", 1},
		{">f", "", "unreachable f i select end", 2},
		{">i", "", "unreachable select i32+22 select select i32+1 end", 1},
		{">", "", "i I f unreachable end", 3},
		{">i", "", "i block unreachable i I f drop drop drop end end", 4},
		{">i", "", "i if:i unreachable else i end end", 1},
		{">i", "", "i if:i i else unreachable end end", 1},
		{">i", "", "unreachable if:i unreachable else i br:0 end end", 1},
		{">i", "", "unreachable block:i i end i32+1 end", 1},
		{">i", "", "unreachable brif:0 end", 1},
		{">", "", "unreachable brif:0 end", 0},
		{">", "I", "unreachable store64 grow drop tee:0 i64+1 set:0 gset:0 drop end", 1},
		{">", "", "loop unreachable i br:0 end end", 1},
		{">i", "", "unreachable return i i drop end", 2},
	} {
		checkTyped(t, moduleOf(funcOf(c.sign, c.locals, c.body)), 0, impl.CheckOk, 0, c.high)
	}
}

// Promise 7: each fault, with its place, written out.
func TestFaultsWrittenOut(t *testing.T) {
	for _, c := range []struct {
		sign, locals, body string
		code, at           int
	}{
		// nothing there
		{">i", "", "end", impl.CheckStack, 0},
		{">", "", "drop end", impl.CheckStack, 0},
		{">", "", "nop drop end", impl.CheckStack, 1},
		{">i", "", "i i32+1 end", impl.CheckStack, 1},
		{">i", "", "i32+22 end", impl.CheckStack, 0},
		{">", "", "if end end", impl.CheckStack, 0},
		{">", "", "brif:0 end", impl.CheckStack, 0},
		{">i", "", "i brif:0 end", impl.CheckStack, 1},
		{">i", "", "br:0 end", impl.CheckStack, 0},
		{">i", "", "return end", impl.CheckStack, 0},
		{">", "", "i i select end", impl.CheckStack, 2},
		{">", "", "i select end", impl.CheckStack, 1},
		{">", "", "select end", impl.CheckStack, 0},
		{">", "I", "tee:0 end", impl.CheckStack, 0},
		{">", "", "I f call:2 end", impl.CheckStack, 2},
		{">", "", "f call:2 end", impl.CheckStack, 1},
		{">", "", "grow end", impl.CheckStack, 0},

		// what lies below a block's height is not there for it
		{">", "", "i block drop end end", impl.CheckStack, 2},
		{">i", "", "i block:i end end", impl.CheckStack, 2},
		{">i", "", "i loop:i end end", impl.CheckStack, 2},
		{">", "", "i i if drop end end", impl.CheckStack, 3},
		{">", "", "i i if else drop end end", impl.CheckStack, 4},
		{">i", "", "i block br:1 end end", impl.CheckStack, 2},
		{">i", "", "i block return end end", impl.CheckStack, 2},

		// something left
		{">", "", "i end", impl.CheckStack, 1},
		{">i", "", "i i end", impl.CheckStack, 2},
		{">i", "", "I i end", impl.CheckStack, 2},
		{">", "", "block i end end", impl.CheckStack, 2},
		{">", "", "i if i else end end", impl.CheckStack, 3},
		{">", "", "i if else i end end", impl.CheckStack, 4},
		{">i", "", "i if:i i i else i end end", impl.CheckStack, 4},
		{">i", "", "i if:i i else i i end end", impl.CheckStack, 6},
		{">", "", "unreachable i end", impl.CheckStack, 2},
		{">i", "", "unreachable i i end", impl.CheckStack, 3},
		{">", "", "unreachable select end", impl.CheckStack, 2},

		// another type
		{">i", "", "I end", impl.CheckType, 1},
		{">I", "", "i end", impl.CheckType, 1},
		{">f", "", "i end", impl.CheckType, 1},
		{">i", "", "i I end", impl.CheckType, 2}, // ahead of what is left
		{">i", "", "i f i32+1 end", impl.CheckType, 2},
		{">i", "", "f i i32+1 end", impl.CheckType, 2},
		{">", "", "I if end end", impl.CheckType, 1},
		{">", "", "f brif:0 end", impl.CheckType, 1},
		{">i", "", "f i brif:0 end", impl.CheckType, 2},
		{">i", "", "f br:0 end", impl.CheckType, 1},
		{">i", "", "f return end", impl.CheckType, 1},
		{">i", "", "block:f i br:0 end end", impl.CheckType, 2},
		{">", "", "i i I select end", impl.CheckType, 3},
		{">", "", "i I i select end", impl.CheckType, 3},
		{">I", "", "i i i select end", impl.CheckType, 4},
		{">I", "", "I f i call:2 end", impl.CheckType, 3},
		{">I", "", "I I f call:2 end", impl.CheckType, 3},
		{">", "", "i I f call:2 i64+1 end", impl.CheckStack, 4},
		{">", "", "i I f call:2 wrap call:3 end", impl.CheckType, 5},
		{">", "", "I i store32 end", impl.CheckType, 2},
		{">", "", "i f store32 end", impl.CheckType, 2},
		{">", "", "I i store64 end", impl.CheckType, 2},
		{">", "", "i i store64 end", impl.CheckType, 2},
		{"i>", "", "I set:0 end", impl.CheckType, 1},
		{"i>", "", "I tee:0 end", impl.CheckType, 1},
		{">", "", "I gset:0 end", impl.CheckType, 1},

		// an if of a type without an else
		{">i", "", "i if:i i end end", impl.CheckType, 3},
		{">i", "", "i if:i end end", impl.CheckStack, 2}, // what it does not leave is met first
		{">i", "", "i if:i i i end end", impl.CheckStack, 4},
		{">i", "", "i if:i unreachable end end", impl.CheckType, 3},
		{">i", "", "unreachable if:i i br:1 end end", impl.CheckType, 4},

		// labels
		{">", "", "br:1 end", impl.CheckLabel, 0},
		{">", "", "br:1000 end", impl.CheckLabel, 0},
		{">", "", "brif:1 end", impl.CheckLabel, 0}, // ahead of what it takes
		{">", "", "f brif:1 end", impl.CheckLabel, 1},
		{">", "", "block br:2 end end", impl.CheckLabel, 1},
		{">", "", "block end br:1 end", impl.CheckLabel, 2},
		{">", "", "block loop i if br:4 end end end end", impl.CheckLabel, 4},
		{">", "", "unreachable br:1 end", impl.CheckLabel, 1},
		{">", "", "unreachable brif:1 end", impl.CheckLabel, 1},

		// indexes
		{">", "", "call:4 end", impl.CheckIndex, 0},
		{">", "", "call:1000 end", impl.CheckIndex, 0},
		{">", "", "get:0 end", impl.CheckIndex, 0},
		{"iI>", "f", "get:3 end", impl.CheckIndex, 0},
		{"iI>", "f", "set:3 end", impl.CheckIndex, 0}, // ahead of what it takes
		{"iI>", "f", "tee:3 end", impl.CheckIndex, 0},
		{">", "", "gget:3 end", impl.CheckIndex, 0},
		{">", "", "gset:3 end", impl.CheckIndex, 0},
		{">", "", "unreachable gset:3 end", impl.CheckIndex, 1},
		{">", "", "unreachable get:0 end", impl.CheckIndex, 1},
		{">", "", "unreachable call:4 end", impl.CheckIndex, 1},

		// what may not be set
		{">", "", "I gset:1 end", impl.CheckFixed, 1},
		{">", "", "gset:1 end", impl.CheckFixed, 0}, // ahead of what it takes
		{">", "", "f gset:1 end", impl.CheckFixed, 1},
		{">", "", "unreachable gset:1 end", impl.CheckFixed, 1},

		// dead blocks: what is put has its type, a block within is not dead, a part behind an else neither
		{">i", "", "unreachable I end", impl.CheckType, 2},
		{">i", "", "unreachable f i32+1 end", impl.CheckType, 2},
		{">i", "", "unreachable i64+1 end", impl.CheckType, 2},
		{">I", "", "unreachable i64+16 end", impl.CheckType, 2},
		{">I", "", "unreachable i f i select end", impl.CheckType, 4},
		{">I", "", "unreachable f i select end", impl.CheckType, 4},
		{">I", "", "unreachable f select end", impl.CheckType, 2},
		{">I", "I", "unreachable tee:0 i32+25 end", impl.CheckType, 2},
		{">I", "", "I return f end", impl.CheckType, 3},
		{">I", "", "I br:0 f end", impl.CheckType, 3},
		{">I", "", "unreachable brif:0 i32+25 end", impl.CheckType, 2},
		{">", "", "unreachable block drop end end", impl.CheckStack, 2},
		{">", "", "unreachable if drop end end", impl.CheckStack, 2},
		{">", "", "i if unreachable else drop end end", impl.CheckStack, 4},
		{">i", "", "i if:i unreachable else end end", impl.CheckStack, 4},
		{">", "", "block unreachable end drop end", impl.CheckStack, 3},
		{">i", "", "block unreachable end end", impl.CheckStack, 3},
		{">i", "", "loop:i unreachable end I i64+1 end", impl.CheckType, 4},
		{">i", "", "i brif:0 unreachable end", impl.CheckStack, 1},

		// the first one counts
		{">", "", "drop call:99 end", impl.CheckStack, 0},
		{">", "", "call:99 drop end", impl.CheckIndex, 0},
		{">", "", "block br:9 end get:9 end", impl.CheckLabel, 1},
	} {
		checkTyped(t, moduleOf(funcOf(c.sign, c.locals, c.body)), 0, c.code, c.at, 0)
	}
}

// Promise 7: without a memory each of those that need one has that fault, ahead of what it takes.
func TestWithoutMemory(t *testing.T) {
	for _, word := range []string{"load32", "load64", "store32", "store64", "size", "grow"} {
		for _, ahead := range []string{"", "nop", "i", "f f", "unreachable"} {
			m := moduleOf(funcOf(">", "", ahead+" "+word+" drop end"))
			m.Memory, m.Pages, m.Most = false, 0, 0
			checkTyped(t, m, 0, impl.CheckMemory, len(strings.Fields(ahead)), 0)
		}
	}
}

// otherTypes: these letters, one of them changed into another one, each way there is.
func otherTypes(s string) []string {
	var l []string
	for i, c := range s {
		for _, other := range "iIf" {
			if other != c && c != '?' {
				l = append(l, s[:i]+string(other)+s[i+1:])
			}
		}
	}
	return l
}

// consts: constants of these types, in words.
func consts(s string) string { return strings.Join(strings.Split(s, ""), " ") }

// Promise 7: every instruction that only takes and puts: with what it takes it is right, and puts its type; with a type
// changed, one less or one more it is not; in a dead block it takes whatever it lacks, and puts its type all the same.
func TestEveryInstructionTakesAndPuts(t *testing.T) {
	f := funcOf("iI>", "f", "end")
	seen := 0
	for _, form := range insForms() {
		for _, op := range form.ops {
			x := impl.Ins{Op: op}
			switch op {
			case 0, 2, 3, 4, 5, 11, 12, 13, 15, 27:
				continue
			}
			for a := range 4 {
				takes, puts, code := wantSign(moduleOf(f), f, impl.Ins{Op: op, A: a})
				if code != impl.CheckOk || a > 0 && form.most == 0 {
					continue
				}
				x.A = a
				checkTakesAndPuts(t, x, strings.ReplaceAll(takes, "?", "f"), puts, takes == "?")
				seen++
			}
		}
	}
	if seen < 100 {
		t.Error("too few:", seen)
	}
}

func checkTakesAndPuts(t *testing.T, x impl.Ins, takes string, puts string, free bool) {
	t.Helper()
	with := func(result string, words string, more ...impl.Ins) impl.Module {
		f := funcOf("iI>"+result, "f", words)
		f.Body = append(f.Body, more...)
		f.Body = append(f.Body, impl.Ins{Op: impl.InEnd})
		return moduleOf(f)
	}
	n := len(takes)
	checkTyped(t, with(puts, consts(takes), x), 0, impl.CheckOk, 0, max(n, len(puts)))
	checkTyped(t, with("", "f "+consts(takes), x), 0, impl.CheckStack, n+2, 0)
	if n > 0 {
		checkTyped(t, with(puts, consts(takes[1:]), x), 0, impl.CheckStack, n-1, 0)
	}
	for _, other := range otherTypes(takes) {
		if !free {
			checkTyped(t, with(puts, consts(other), x), 0, impl.CheckType, n, 0)
			checkTyped(t, with(puts, "unreachable "+consts(other), x), 0, impl.CheckType, n+1, 0)
		}
	}
	for have := range n + 1 {
		checkTyped(t, with(puts, "unreachable "+consts(takes[have:]), x), 0, impl.CheckOk, 0, max(n-have, len(puts)))
	}
	for _, other := range otherTypes(puts) {
		checkTyped(t, with(other, "unreachable", x), 0, impl.CheckType, 2, 0)
		checkTyped(t, with(other, consts(takes), x), 0, impl.CheckType, n+1, 0)
	}
}

// Promise 7: what is told is what a reader says that goes by blocks: all short bodies of some words.
func TestAllShortTyped(t *testing.T) {
	sets := []struct {
		words  string
		longer int
	}{
		{"block block:i loop:i if if:i else end br:0 br:1 brif:0 i I drop select unreachable return nop i32+1", 4},
		{"block:i if:i else end br:0 i drop unreachable brif:1", 6},
		{"i I select unreachable drop i32+1 brif:0", 6},
	}
	for _, set := range sets {
		var words []impl.Ins
		for _, w := range strings.Fields(set.words) {
			words = append(words, insOfWord(w))
		}
		met := [8]int{}
		for _, sign := range []string{">", ">i", "i>I"} {
			eachRow(words, set.longer, func(l []impl.Ins) {
				body := append(slices.Clone(l), impl.Ins{Op: impl.InEnd})
				f := funcOf(sign, "", "")
				f.Body = body
				m := impl.Module{Start: -1, Funcs: []impl.Func{f}}
				if _, ok := impl.EndsOf(body); !ok {
					return
				}
				met[checkAsRead(t, m)]++
			})
		}
		if met[impl.CheckOk] < 100 || met[impl.CheckStack] < 100 || met[impl.CheckType] < 100 {
			t.Error("too few of a kind:", set.words, met)
		}
	}
}

// eachRow: all rows of at most so many of these.
func eachRow(words []impl.Ins, most int, do func([]impl.Ins)) {
	var l []impl.Ins
	var from func()
	from = func() {
		do(l)
		if len(l) == most {
			return
		}
		for _, x := range words {
			l = append(l, x)
			from()
			l = l[:len(l)-1]
		}
	}
	from()
}

// changed: one instruction put in, taken out or made another one, in one of the funcs.
func changed(r *rand.Rand, m impl.Module) impl.Module {
	m.Funcs = slices.Clone(m.Funcs)
	k := r.Intn(len(m.Funcs))
	body := slices.Clone(m.Funcs[k].Body)
	if len(body) == 0 {
		return m
	}
	at := r.Intn(len(body))
	x := anyIns(r)
	if r.Intn(3) > 0 {
		x.A %= 12
	}
	switch r.Intn(4) {
	case 0:
		body = slices.Insert(body, at, x)
	case 1:
		body = slices.Delete(body, at, at+1)
	case 2:
		body = slices.Insert(body, at, codeOfWords([]string{"unreachable", "br:0", "return", "select", "drop", "i", "brif:1", "br:2"}[r.Intn(8)])[0])
	default:
		body[at] = x
	}
	m.Funcs[k].Body = body
	return m
}

// Promise 7: modules that are meant to be well typed are, and one that has been changed is what the reader says.
func TestAnyTyped(t *testing.T) {
	r := rand.New(rand.NewSource(71))
	met := [8]int{}
	for range 1500 {
		m := anyTyped(r)
		if code := checkAsRead(t, m); code != impl.CheckOk {
			t.Fatalf("meant to be well typed: %v: %d", m, code)
		}
		for range 12 {
			other := changed(r, m)
			if r.Intn(2) == 0 {
				other = changed(r, other)
			}
			if impl.GoodShape(other) {
				met[checkAsRead(t, other)]++
			}
		}
	}
	for code, n := range met {
		if code != impl.CheckForm && n < 20 {
			t.Errorf("code %d was met %d times", code, n)
		}
	}
}

// Promise 7: a step that does nothing changes nothing: an InNop put in anywhere moves the fault by one place if it stands
// ahead of it, and changes neither the code nor how high the stack becomes.
func TestNopChangesNothing(t *testing.T) {
	r := rand.New(rand.NewSource(72))
	for range 1500 {
		m := anyTyped(r)
		if r.Intn(2) == 0 {
			m = changed(r, m)
		}
		k := r.Intn(len(m.Funcs))
		if !impl.GoodShape(m) || len(m.Funcs[k].Body) == impl.MaxBody {
			continue
		}
		code, at := impl.CheckFunc(m, k)
		high, _ := impl.HighestOf(m, k)
		for _, where := range []int{0, r.Intn(len(m.Funcs[k].Body)), len(m.Funcs[k].Body) - 1} {
			more := m
			more.Funcs = slices.Clone(m.Funcs)
			more.Funcs[k].Body = slices.Insert(slices.Clone(m.Funcs[k].Body), where, impl.Ins{Op: impl.InNop})
			moved := at
			if code != impl.CheckOk && where <= at {
				moved++
			}
			checkTyped(t, more, k, code, moved, high)
		}
	}
}

// Promise 7: of a module the first func with a fault is told: the first one, the last one, one of several.
func TestModulesTold(t *testing.T) {
	right, stack, label := funcOf(">", "", "end"), funcOf(">", "", "nop nop drop end"), funcOf(">", "", "nop br:1 end")
	for _, c := range []struct {
		funcs           []impl.Func
		code, which, at int
	}{
		{nil, impl.CheckOk, 0, 0},
		{[]impl.Func{right}, impl.CheckOk, 0, 0},
		{[]impl.Func{stack}, impl.CheckStack, 0, 2},
		{[]impl.Func{stack, right, right}, impl.CheckStack, 0, 2},
		{[]impl.Func{right, right, label}, impl.CheckLabel, 2, 1},
		{[]impl.Func{right, label, stack}, impl.CheckLabel, 1, 1},
		{[]impl.Func{right, stack, label}, impl.CheckStack, 1, 2},
		{slices.Repeat([]impl.Func{right}, 10), impl.CheckOk, 0, 0},
		{append(slices.Repeat([]impl.Func{right}, 9), label), impl.CheckLabel, 9, 1},
		{slices.Repeat([]impl.Func{right}, 11), impl.CheckForm, 0, 0},
		{append(slices.Repeat([]impl.Func{stack}, 9), funcOf(">", "", "")), impl.CheckForm, 0, 0}, // a fault of form counts ahead of all
	} {
		if code, which, at := impl.CheckModule(impl.Module{Start: -1, Funcs: c.funcs}); code != c.code || which != c.which || at != c.at {
			t.Errorf("%v: %d, %d, %d, want %d, %d, %d", c.funcs, code, which, at, c.code, c.which, c.at)
		}
	}
	m := impl.Module{Start: -1, Funcs: []impl.Func{stack, right, label}}
	checkTyped(t, m, 0, impl.CheckStack, 2, 0)
	checkTyped(t, m, 1, impl.CheckOk, 0, 0)
	checkTyped(t, m, 2, impl.CheckLabel, 1, 0)
}

// A branch goes out of as many blocks as there are, the body counting, and of no more.
func TestBranchesByDepth(t *testing.T) {
	for depth := range 100 {
		for _, out := range []int{0, depth / 2, depth, depth + 1} {
			for _, branch := range []impl.Ins{{Op: impl.InBr, A: out}, {Op: impl.InBrIf, A: out}} {
				f := funcOf(">", "", strings.Repeat("block ", depth)+strings.Repeat("end ", depth+1))
				f.Body = slices.Insert(f.Body, depth, branch)
				at := depth
				if branch.Op == impl.InBrIf && depth < 99 {
					f.Body = slices.Insert(f.Body, depth, insOfWord("i"))
					at++
				} else if branch.Op == impl.InBrIf {
					continue
				}
				code, high := impl.CheckOk, 0
				if at > depth {
					high = 1
				}
				if out > depth {
					code, high = impl.CheckLabel, 0
				} else {
					at = 0
				}
				checkTyped(t, moduleOf(f), 0, code, at, high)
			}
		}
	}
}

// Calls with as many Params as there may be, of all types, taken from the last one on.
func TestCallsTakeParams(t *testing.T) {
	r := rand.New(rand.NewSource(73))
	for range 2000 {
		called := impl.Func{Params: anyTypes(r, impl.MaxParams), Result: impl.TypeNone, Body: codeOfWords("end")}
		letters := lettersOfTypes(called.Params)
		f := funcOf(">", "", consts(letters)+" call:1 end")
		m := impl.Module{Start: -1, Funcs: []impl.Func{f, called}}
		checkTyped(t, m, 0, impl.CheckOk, 0, len(letters))
		for _, other := range otherTypes(letters) {
			m.Funcs[0] = funcOf(">", "", consts(other)+" call:1 end")
			checkTyped(t, m, 0, impl.CheckType, len(letters), 0)
			m.Funcs[0] = funcOf(">", "", "unreachable "+consts(other)+" call:1 end")
			checkTyped(t, m, 0, impl.CheckType, len(letters)+1, 0)
		}
		if letters != "" {
			m.Funcs[0] = funcOf(">", "", consts(letters[1:])+" call:1 end")
			checkTyped(t, m, 0, impl.CheckStack, len(letters)-1, 0)
		}
	}
}

// How high a stack may become at most: nearly as high as there are instructions.
func TestHighStacks(t *testing.T) {
	f := funcOf(">", "", strings.Repeat("f ", 198)+"return end")
	checkTyped(t, moduleOf(f), 0, impl.CheckOk, 0, 198)
	f = funcOf(">i", "", strings.Repeat("i ", 100)+strings.Repeat("i32+1 ", 99)+"end")
	checkTyped(t, moduleOf(f), 0, impl.CheckOk, 0, 100)
	f = funcOf(">i", "", strings.Repeat("i block:i ", 20)+"i "+strings.Repeat("end drop ", 20)+"end")
	checkTyped(t, moduleOf(f), 0, impl.CheckOk, 0, 21)
}
