package tests

import (
	"math"
	"math/rand"
	"slices"
	"strings"
	"testing"

	"loop.example/g00209/impl"
)

func TestModuleConstants(t *testing.T) {
	got := []int{impl.Magic, impl.SectionFuncs, impl.SectionMemory, impl.SectionGlobals, impl.SectionStart, impl.LoadOk, impl.LoadMagic, impl.LoadForm, impl.LoadCheck}
	if want := []int{0x6d707100, 1, 5, 6, 8, 0, 1, 2, 3}; !slices.Equal(got, want) {
		t.Error(got, want)
	}
}

// checkModule: its bytes, if it has some, are those that are wanted, and it comes back from them; it is loaded where it is
// well typed. What is told tells the same module, and no other.
func checkModule(t *testing.T, m impl.Module, want string) {
	t.Helper()
	s, ok := impl.ModuleBytes(m)
	if s != want || ok != (want != "") {
		t.Fatalf("ModuleBytes(%v) = %x, %t, want %x", m, s, ok, want)
	}
	if want == "" {
		return
	}
	back, code := impl.ReadModule(s)
	if code != impl.LoadOk || !equalModules(back, m) {
		t.Fatalf("ReadModule(%x) = %v, %d, want %v", s, back, code, m)
	}
	if same, ok := impl.SameModule(back, m); !same || !ok {
		t.Fatalf("SameModule(%v, %v) = %t, %t", back, m, same, ok)
	}
	wanted, wantCode := wantLoaded(s)
	if back, code := impl.LoadModule(s); code != wantCode || !equalModules(back, wanted) {
		t.Fatalf("LoadModule(%x) = %v, %d, want %v, %d", s, back, code, wanted, wantCode)
	}
	if fault, _, _ := impl.CheckModule(m); (fault == impl.CheckOk) != (wantCode == impl.LoadOk) {
		t.Fatalf("CheckModule(%v) = %d, but loaded: %d", m, fault, wantCode)
	}
}

// Promise 9: modules and their bytes, written out: each part alone, and all of them.
func TestModulesWrittenOut(t *testing.T) {
	empty := funcOf(">", "", "end")
	full := impl.Module{
		Funcs:   []impl.Func{empty, funcOf("iIf>I", "fi", "I:-1 end")},
		Globals: []impl.Global{{Type: impl.TypeI32, Bits: 300}, {Type: impl.TypeF32, Fixed: true, Bits: 5}},
		Memory:  true, Pages: 1, Most: 8, Start: 0,
	}
	const emptyFunc = "\x00\x40\x00\x01\x0b"
	for want, m := range map[string]impl.Module{
		"":                                          {Start: -1},
		"\x05\x02\x00\x00":                          {Start: -1, Memory: true},
		"\x05\x02\x00\x08":                          {Start: -1, Memory: true, Most: 8},
		"\x05\x02\x03\x03":                          {Start: -1, Memory: true, Pages: 3, Most: 3},
		"\x06\x04\x01\x7f\x00\x00":                  {Start: -1, Globals: []impl.Global{{Type: impl.TypeI32}}},
		"\x06\x05\x01\x7e\x01\x80\x01":              {Start: -1, Globals: []impl.Global{{Type: impl.TypeI64, Fixed: true, Bits: 128}}},
		"\x01\x06\x01" + emptyFunc:                  {Start: -1, Funcs: []impl.Func{empty}},
		"\x01\x0b\x02" + emptyFunc + emptyFunc:      {Start: -1, Funcs: []impl.Func{empty, empty}},
		"\x01\x06\x01" + emptyFunc + "\x08\x01\x00": {Start: 0, Funcs: []impl.Func{empty}},
		"\x01\x0b\x02" + emptyFunc + emptyFunc + "\x08\x01\x01": {Start: 1, Funcs: []impl.Func{empty, empty}},
		"\x01\x08\x01\x00\x7f\x00\x03\x41\x07\x0b":              {Start: -1, Funcs: []impl.Func{funcOf(">i", "", "i:7 end")}},
		"\x01\x0a\x01\x02\x7f\x7d\x40\x02\x7e\x7e\x01\x0b":      {Start: -1, Funcs: []impl.Func{funcOf("if>", "II", "end")}},
		"\x01\x12\x02" + emptyFunc + "\x03\x7f\x7e\x7d\x7e\x02\x7d\x7f\x03\x42\x7f\x0b" +
			"\x05\x02\x01\x08" + "\x06\x08\x02\x7f\x00\xac\x02\x7d\x01\x05" + "\x08\x01\x00": full,
	} {
		checkModule(t, m, magic+want)
	}
	checkModule(t, impl.Module{}, "") // it has no shape: there is no func 0
}

// Promise 9: any modules come back, and those that do not go into the sections have no bytes.
func TestModulesComeBack(t *testing.T) {
	r := rand.New(rand.NewSource(91))
	met := map[string]int{}
	for range 3000 {
		m := anyShaped(r)
		if !impl.GoodShape(m) {
			t.Fatal("meant to have shape:", m)
		}
		want := ""
		if fitsBytes(m) {
			want = wantModule(m)
		}
		checkModule(t, m, want)
		fault, _, _ := impl.CheckModule(m)
		switch {
		case want == "":
			met["none"]++
		case fault != impl.CheckOk:
			met["fault"]++
		default:
			met["typed"]++
		}
		if len(m.Funcs) == 0 {
			met["no funcs"]++
		}
		if m.Start >= 0 {
			met["start"]++
		}
	}
	for _, what := range []string{"none", "fault", "typed", "no funcs", "start"} {
		if met[what] < 50 {
			t.Error("too few:", what, met)
		}
	}
}

// checkFunc: its bytes, if it has some, are those that are wanted, and it comes back from them whatever stands behind.
func checkFunc(t *testing.T, f impl.Func, want string) {
	t.Helper()
	s, ok := impl.FuncBytes(f)
	if s != want || ok != (want != "") {
		t.Fatalf("FuncBytes(%v) = %x, %t, want %x", f, s, ok, want)
	}
	if want == "" {
		return
	}
	for _, behind := range []string{"", "\x00", "\x0b", "\x80", s, text(4000), strings.Repeat("\xff", 20)} {
		if back, took := impl.TakeFunc(s + behind); took != len(s) || !equalFuncs(back, f) {
			t.Fatalf("TakeFunc(%x) = %v, %d, want %v, %d", s+behind, back, took, f, len(s))
		}
	}
}

func TestFuncsWrittenOut(t *testing.T) {
	checkFunc(t, funcOf(">", "", "end"), "\x00\x40\x00\x01\x0b")
	checkFunc(t, funcOf("i>f", "", "unreachable end"), "\x01\x7f\x7d\x00\x02\x00\x0b")
	checkFunc(t, funcOf(">I", "If", "get:0 end"), "\x00\x7e\x02\x7e\x7d\x03\x20\x00\x0b")
	checkFunc(t, funcOf("iIfiIf>i", "", "block:i i:200 br:0 end end"), "\x06\x7f\x7e\x7d\x7f\x7e\x7d\x7f\x00\x09\x02\x7f\x41\xc8\x01\x0c\x00\x0b\x0b")
	checkFunc(t, funcOf(">", "", "drop select call:1000 end"), "\x00\x40\x00\x06\x1a\x1b\x10\xe8\x07\x0b")
	checkFunc(t, funcOf(">", strings.Repeat("f", 20), strings.Repeat("nop ", 199)+"end"),
		"\x00\x40\x14"+strings.Repeat("\x7d", 20)+"\xc8\x01"+strings.Repeat("\x01", 199)+"\x0b")
}

// Promise 9: any funcs come back; bytes of which some lack tell none.
func TestFuncsComeBack(t *testing.T) {
	r := rand.New(rand.NewSource(92))
	for range 300 {
		for _, f := range anyShaped(r).Funcs {
			s := wantFunc(f)
			if len(s) > 900 {
				checkFunc(t, f, "")
				continue
			}
			checkFunc(t, f, s)
			for n := range s {
				if back, took := impl.TakeFunc(s[:n]); took != 0 || !equalFuncs(back, impl.Func{}) {
					t.Fatalf("TakeFunc of %d bytes of %x = %v, %d", n, s, back, took)
				}
			}
		}
	}
}

// longFunc: one whose bytes are just that many, by floats of five bytes each and what is left over.
func longFunc(t *testing.T, size int) impl.Func {
	t.Helper()
	f := funcOf(">", "", "")
	left := size - 6 // three bytes ahead, two that tell the length, and the end
	for ; left >= 5; left -= 5 {
		f.Body = append(f.Body, impl.Ins{Op: impl.InConstF, A: math.MaxUint32})
	}
	f.Body = append(slices.Concat(f.Body, slices.Repeat(codeOfWords("nop"), left)), impl.Ins{Op: impl.InEnd})
	if len(wantFunc(f)) != size || len(f.Body) > impl.MaxBody {
		t.Fatal("meant to have bytes:", size, len(wantFunc(f)))
	}
	return f
}

// Promise 9: a func of just 900 bytes, and of more; more do not come back from bytes either, alone or in a module.
func TestFuncsAtTheirLimit(t *testing.T) {
	for size := 890; size <= 980; size++ {
		f := longFunc(t, size)
		m := impl.Module{Start: -1, Funcs: []impl.Func{f}}
		if size <= 900 {
			checkFunc(t, f, wantFunc(f))
			checkModule(t, m, wantModule(m))
			continue
		}
		checkFunc(t, f, "")
		checkModule(t, m, "")
		if back, took := impl.TakeFunc(wantFunc(f)); took != 0 || !equalFuncs(back, impl.Func{}) {
			t.Errorf("TakeFunc of %d bytes: %d", size, took)
		}
		checkAsReader(t, wantModule(m), impl.LoadForm)
	}
	for _, locals := range []string{"", "i"} { // the limit is one of all its bytes, not of its code alone
		f := longFunc(t, 900)
		f.Locals = typesOfLetters(locals)
		if locals == "" {
			checkFunc(t, f, wantFunc(f))
		} else {
			checkFunc(t, f, "")
		}
	}
}

// The limit is one of the least bytes that a func has: numbers that are longer do not count.
func TestLongNumbersAtTheLimit(t *testing.T) {
	f := longFunc(t, 900)
	for which := range 3 {
		w := moduleWriter{which: which, by: 3}
		s := w.fun(f)
		if back, took := impl.TakeFunc(s); took != 903 || !equalFuncs(back, f) {
			t.Errorf("TakeFunc = %v, %d", back, took)
		}
	}
	w := moduleWriter{which: -1, by: 3}
	m := impl.Module{Start: -1, Funcs: []impl.Func{f}}
	checkAsReader(t, w.module(m), impl.LoadOk)
}

// Promise 9: funcs that together have just 1000 bytes, with how many they are, and one more.
func TestFuncsAtTheLimitOfTheirSection(t *testing.T) {
	for _, sizes := range [][]int{{499, 500}, {333, 333, 333}, {899, 100 - 60, 60}, {900, 99}} {
		m := impl.Module{Start: -1, Memory: true}
		for _, size := range sizes {
			m.Funcs = append(m.Funcs, shortOrLong(t, size))
		}
		checkModule(t, m, wantModule(m))
		for k := range m.Funcs {
			more := copyOf(m)
			more.Funcs[k].Body = append(codeOfWords("nop"), m.Funcs[k].Body...)
			checkModule(t, more, "")
			checkAsReader(t, wantModule(more), impl.LoadForm)
		}
		w := moduleWriter{which: 0, by: 1} // how many funcs there are
		checkAsReader(t, w.module(m), impl.LoadForm)
	}
}

// shortOrLong: below 128 bytes of code its length has a byte less.
func shortOrLong(t *testing.T, size int) impl.Func {
	if size > 140 {
		return longFunc(t, size)
	}
	f := funcOf(">", "", strings.Repeat("nop ", size-5)+"end")
	if len(wantFunc(f)) != size {
		t.Fatal("meant to have bytes:", size)
	}
	return f
}

// Promise 9: as many Funcs, Params, Locals and Globals as there may be, and one more of each.
func TestModulesAtTheirLimits(t *testing.T) {
	for n := range 24 {
		types := slices.Repeat([]int{impl.TypeF32}, n)
		body := codeOfWords("unreachable end")
		many := impl.Module{Start: -1, Funcs: slices.Repeat([]impl.Func{funcOf(">", "", "end")}, n)}
		checkLimit(t, many, n <= impl.MaxFuncs)
		checkLimit(t, impl.Module{Start: -1, Globals: slices.Repeat([]impl.Global{{Type: impl.TypeI64, Bits: math.MaxUint64, Fixed: true}}, n)}, n <= impl.MaxGlobals)
		checkLimit(t, impl.Module{Start: -1, Funcs: []impl.Func{{Params: types, Result: impl.TypeI64, Body: body}}}, n <= impl.MaxParams)
		checkLimit(t, impl.Module{Start: -1, Funcs: []impl.Func{{Locals: types, Result: impl.TypeNone, Body: body}}}, n <= impl.MaxLocals)
	}
	for n := 198; n <= 202; n++ {
		body := slices.Repeat(codeOfWords("nop"), n)
		body[n-1].Op = impl.InEnd
		checkLimit(t, impl.Module{Start: -1, Funcs: []impl.Func{{Result: impl.TypeNone, Body: body}}}, n <= impl.MaxBody)
	}
}

// checkLimit: within it comes back, beyond it is refused both as a module and as bytes, and so are its funcs.
func checkLimit(t *testing.T, m impl.Module, within bool) {
	t.Helper()
	if within {
		checkModule(t, m, wantModule(m))
	} else {
		checkModule(t, m, "")
		checkAsReader(t, wantModule(m), impl.LoadForm)
	}
	for _, f := range m.Funcs {
		if impl.GoodShape(impl.Module{Start: -1, Funcs: []impl.Func{f}}) {
			checkFunc(t, f, wantFunc(f))
			continue
		}
		checkFunc(t, f, "")
		if back, took := impl.TakeFunc(wantFunc(f)); took != 0 || !equalFuncs(back, impl.Func{}) {
			t.Fatalf("TakeFunc = %v, %d", back, took)
		}
	}
}

// Promise 9: a global's Bits at their ends.
func TestModuleBits(t *testing.T) {
	for _, bits := range []uint64{0, 1, 127, 128, 1 << 31, 1<<32 - 1, 1 << 32, 1<<35 - 1, 1 << 35, 1 << 62, 1 << 63, math.MaxUint64 - 1, math.MaxUint64} {
		for _, typ := range []int{impl.TypeI32, impl.TypeI64, impl.TypeF32} {
			for _, fixed := range []bool{false, true} {
				m := impl.Module{Start: -1, Globals: []impl.Global{{Type: impl.TypeI32}, {Type: typ, Fixed: fixed, Bits: bits}}}
				checkLimit(t, m, typ == impl.TypeI64 || bits < 1<<32)
			}
		}
	}
}

// Promise 9: Pages and Most at their ends, Start at its.
func TestModuleNumbers(t *testing.T) {
	for pages := range 10 {
		for most := range 10 {
			checkLimit(t, impl.Module{Start: -1, Memory: true, Pages: pages, Most: most}, pages <= most && most <= 8)
		}
	}
	for _, n := range []int{127, 128, 256, 1 << 31, 1<<32 - 1} {
		checkLimit(t, impl.Module{Start: -1, Memory: true, Most: n}, false)
		checkLimit(t, impl.Module{Start: -1, Memory: true, Pages: n, Most: 8}, false)
		checkLimit(t, impl.Module{Start: n, Funcs: []impl.Func{funcOf(">", "", "end")}}, false)
	}
	m := impl.Module{Funcs: []impl.Func{funcOf(">", "", "end"), funcOf("i>", "", "end"), funcOf(">i", "", "i end"), funcOf(">", "i", "drop end")}}
	for start, good := range map[int]bool{-1: true, 0: true, 1: false, 2: false, 3: true, 4: false, 5: false, 9: false, 10: false} {
		m.Start = start
		checkLimit(t, m, good)
	}
}
