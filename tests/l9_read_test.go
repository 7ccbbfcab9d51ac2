package tests

import (
	"fmt"
	"math/rand"
	"slices"
	"strings"
	"testing"

	"loop.example/g00209/impl"
)

// checkReading: ReadModule, LoadModule and TakeFunc tell what the reader of these tests tells; the code of ReadModule.
func checkReading(t *testing.T, s string) int {
	t.Helper()
	want, wantCode := wantRead(s)
	if m, code := impl.ReadModule(s); code != wantCode || !equalModules(m, want) {
		t.Fatalf("ReadModule(%x) = %v, %d, want %v, %d", s, m, code, want, wantCode)
	}
	loaded, loadCode := wantLoaded(s)
	if m, code := impl.LoadModule(s); code != loadCode || !equalModules(m, loaded) {
		t.Fatalf("LoadModule(%x) = %v, %d, want %v, %d", s, m, code, loaded, loadCode)
	}
	return wantCode
}

// checkAsReader: and that this is what is meant.
func checkAsReader(t *testing.T, s string, code int) {
	t.Helper()
	if got := checkReading(t, s); got != code {
		t.Fatalf("%x: %d, meant to be %d", s, got, code)
	}
}

func checkTaking(t *testing.T, s string) int {
	t.Helper()
	want, wantTook := wantTaken(s)
	if f, took := impl.TakeFunc(s); took != wantTook || !equalFuncs(f, want) {
		t.Fatalf("TakeFunc(%x) = %v, %d, want %v, %d", s, f, took, want, wantTook)
	}
	return wantTook
}

// someModules: each has several of all parts.
func someModules() []impl.Module {
	typed := moduleOf(funcOf("i>i", "I", "get:0 if:i i:-5 else gget:0 end end"))
	typed.Globals[1].Bits = 1<<64 - 1
	typed.Globals[2].Bits = 1<<32 - 1
	typed.Start = 1
	faulty := moduleOf(funcOf(">", "fI", "block drop call:700 I:-999999999999 f:77 load64:10000 br:1 end end"))
	faulty.Start = 0
	return []impl.Module{typed, faulty}
}

// Promise 9: one that has shape and a fault is read and not loaded.
func TestModulesWithFaults(t *testing.T) {
	for body, code := range map[string]int{
		"end": impl.LoadOk, "i drop end": impl.LoadOk, "call:1 end": impl.LoadOk, "i gset:0 end": impl.LoadOk, "i load32 drop end": impl.LoadOk,
		"unreachable drop end": impl.LoadOk, "loop br:0 end end": impl.LoadOk,
		"drop end": impl.LoadCheck, "i end": impl.LoadCheck, "br:1 end": impl.LoadCheck, "call:4 end": impl.LoadCheck, "I gset:1 end": impl.LoadCheck,
		"f gset:0 end": impl.LoadCheck, "get:0 drop end": impl.LoadCheck, "i if:i end drop end": impl.LoadCheck,
	} {
		for at := range 3 {
			m := moduleOf(funcOf(">", "", "end"))
			m.Funcs[at] = funcOf(">", "", body)
			checkAsReader(t, wantModule(m), impl.LoadOk)
			if got, loaded := impl.LoadModule(wantModule(m)); loaded != code {
				t.Errorf("%s as func %d: %v, %d", body, at, got, loaded)
			}
		}
	}
	m := moduleOf(funcOf(">", "", "size drop end"))
	m.Memory, m.Pages, m.Most = false, 0, 0
	if got, code := impl.LoadModule(wantModule(m)); code != impl.LoadCheck || !equalModules(got, impl.Module{}) {
		t.Error(got, code)
	}
}

// Numbers may be longer than needed, wherever one stands, up to the bytes that such a number may have.
func TestModulesOfLongNumbers(t *testing.T) {
	for _, m := range someModules() {
		all := new(moduleWriter)
		short := all.module(m)
		met := [2]int{}
		for which := -1; which < all.met; which++ {
			for by := range 12 {
				w := moduleWriter{which: which, by: by}
				s := w.module(m)
				if by > 0 && s == short {
					t.Fatal("meant to be longer:", which, by)
				}
				if w.tooLong {
					met[1]++
					checkAsReader(t, s, impl.LoadForm)
					continue
				}
				met[0]++
				checkAsReader(t, s, impl.LoadOk)
				if back, code := impl.ReadModule(s); code != impl.LoadOk || !equalModules(back, m) {
					t.Fatalf("number %d longer by %d: %v, %d", which, by, back, code)
				}
			}
		}
		if met[0] < 100 || met[1] < 100 {
			t.Error("too few:", met)
		}
	}
}

func TestFuncsOfLongNumbers(t *testing.T) {
	for _, m := range someModules() {
		for _, f := range m.Funcs {
			all := new(moduleWriter)
			all.fun(f)
			for which := -1; which < all.met; which++ {
				for by := range 12 {
					w := moduleWriter{which: which, by: by}
					s := w.fun(f)
					want, wantTook := f, len(s)
					if w.tooLong {
						want, wantTook = impl.Func{}, 0
					}
					for _, behind := range []string{"", "\x00\x00\x00\x00\x00\x00", s} {
						if back, took := impl.TakeFunc(s + behind); took != wantTook || !equalFuncs(back, want) {
							t.Fatalf("number %d longer by %d: TakeFunc(%x) = %v, %d", which, by, s+behind, back, took)
						}
					}
				}
			}
		}
	}
}

// Numbers are written out: how many Params, Locals, bytes, Funcs and Globals; Pages, Most, Bits and Start.
func TestLongNumbersWrittenOut(t *testing.T) {
	empty := funcOf(">", "", "end")
	one := impl.Module{Start: -1, Funcs: []impl.Func{empty}}
	started := impl.Module{Start: 0, Funcs: []impl.Func{empty}}
	wide := impl.Module{Start: -1, Globals: []impl.Global{{Type: impl.TypeI64, Bits: 1<<64 - 1}}}
	narrow := impl.Module{Start: -1, Globals: []impl.Global{{Type: impl.TypeF32, Bits: 1<<32 - 1}}}
	for s, want := range map[string]impl.Module{
		"\x01\x07\x01\x80\x00\x40\x00\x01\x0b":                             one,
		"\x01\x0a\x01\x80\x80\x80\x80\x00\x40\x00\x01\x0b":                 one,
		"\x01\x07\x01\x00\x40\x80\x00\x01\x0b":                             one,
		"\x01\x07\x01\x00\x40\x00\x81\x00\x0b":                             one,
		"\x01\x07\x81\x00\x00\x40\x00\x01\x0b":                             one,
		"\x01\x86\x00\x01\x00\x40\x00\x01\x0b":                             one,
		"\x01\x86\x80\x80\x80\x00\x01\x00\x40\x00\x01\x0b":                 one,
		"\x01\x06\x01\x00\x40\x00\x01\x0b\x08\x02\x80\x00":                 started,
		"\x01\x06\x01\x00\x40\x00\x01\x0b\x08\x05\x80\x80\x80\x80\x00":     started,
		"\x05\x04\x82\x00\x88\x00":                                         {Start: -1, Memory: true, Pages: 2, Most: 8},
		"\x05\x0a\x80\x80\x80\x80\x00\x80\x80\x80\x80\x00":                 {Start: -1, Memory: true},
		"\x06\x0d\x01\x7e\x00\xff\xff\xff\xff\xff\xff\xff\xff\xff\x01":     wide,
		"\x06\x0e\x81\x00\x7e\x00\xff\xff\xff\xff\xff\xff\xff\xff\xff\x01": wide,
		"\x06\x08\x01\x7d\x00\xff\xff\xff\xff\x0f":                         narrow,
		"\x06\x09\x01\x7d\x00\xff\xff\xff\xff\x8f\x00":                     narrow,
		"\x06\x05\x01\x7f\x00\x80\x00":                                     {Start: -1, Globals: []impl.Global{{Type: impl.TypeI32}}},
		"\x06\x0d\x01\x7d\x00\xff\xff\xff\xff\x8f\x80\x80\x80\x80\x00":     narrow,
	} {
		if m, code := impl.LoadModule(magic + s); code != impl.LoadOk || !equalModules(m, want) {
			t.Errorf("LoadModule(%x) = %v, %d", s, m, code)
		}
		checkAsReader(t, magic+s, impl.LoadOk)
	}
}

// The first four bytes, cut short or other ones: whatever else is wrong, or right.
func TestMagic(t *testing.T) {
	for behind, right := range map[string]int{"": impl.LoadOk, "\x05\x02\x00\x00": impl.LoadOk, "\x05\x02\x00": impl.LoadForm, "\x09": impl.LoadForm, text(5000): impl.LoadForm} {
		for n := range 4 {
			if m, code := impl.ReadModule(magic[:n]); code != impl.LoadMagic || !equalModules(m, impl.Module{}) {
				t.Errorf("ReadModule(%x) = %v, %d", magic[:n], m, code)
			}
			for b := range 256 {
				s := []byte(magic + behind)
				s[n] = byte(b)
				code := impl.LoadMagic
				if byte(b) == magic[n] {
					code = right
				}
				checkAsReader(t, string(s), code)
			}
		}
		checkAsReader(t, "xx"+magic+behind, impl.LoadMagic)
		checkAsReader(t, "\x6d\x70\x71\x00"+behind, impl.LoadMagic)
		checkAsReader(t, "\x00asm"+behind, impl.LoadMagic)
	}
}

// Promise 9: bytes that have the first four ones, and in which anything else is wrong.
func TestModulesOfWrongForm(t *testing.T) {
	const funcs, memory, globals, start = "\x01\x06\x01\x00\x40\x00\x01\x0b", "\x05\x02\x00\x00", "\x06\x04\x01\x7f\x00\x00", "\x08\x01\x00"
	checkAsReader(t, magic+funcs+memory+globals+start, impl.LoadOk)
	for why, s := range map[string]string{
		"no Funcs":                         "\x01\x01\x00",
		"no Funcs, longer":                 "\x01\x02\x80\x00",
		"no Funcs, with one":               "\x01\x06\x00\x00\x40\x00\x01\x0b",
		"no globals":                       "\x06\x01\x00",
		"no globals behind funcs":          funcs + "\x06\x01\x00",
		"no globals, longer":               "\x06\x03\x80\x80\x00",
		"empty funcs":                      "\x01\x00",
		"empty memory":                     "\x05\x00",
		"empty globals":                    "\x06\x00",
		"empty start":                      funcs + "\x08\x00",
		"funcs twice":                      funcs + funcs,
		"memory twice":                     memory + memory,
		"globals twice":                    globals + globals,
		"start twice":                      funcs + start + start,
		"memory ahead of funcs":            memory + funcs,
		"globals ahead of memory":          funcs + globals + memory,
		"start ahead of globals":           funcs + start + globals,
		"start ahead of funcs":             start + funcs,
		"start without funcs":              start,
		"start of a func that is not":      funcs + "\x08\x01\x01",
		"start of 2^32 - 1, as -1":         funcs + "\x08\x05\xff\xff\xff\xff\x0f",
		"start of 127, as -1":              funcs + "\x08\x01\x7f",
		"start of 2^32":                    funcs + "\x08\x05\x80\x80\x80\x80\x10",
		"start and a byte":                 funcs + "\x08\x02\x00\x00",
		"start that is half a number":      funcs + "\x08\x01\x80",
		"memory of one number":             "\x05\x01\x00",
		"memory of three":                  "\x05\x03\x00\x00\x00",
		"memory of half a number":          "\x05\x02\x00\x80",
		"Pages beyond Most":                "\x05\x02\x02\x01",
		"Most beyond":                      "\x05\x02\x00\x09",
		"Most of 2^32":                     "\x05\x06\x00\x80\x80\x80\x80\x10",
		"fewer globals than told":          "\x06\x04\x02\x7f\x00\x00",
		"more globals than told":           "\x06\x07\x01\x7f\x00\x00\x7f\x00\x00",
		"a global without type":            "\x06\x04\x01\x40\x00\x00",
		"a global of no type":              "\x06\x04\x01\x7c\x00\x00",
		"a global fixed by 2":              "\x06\x04\x01\x7f\x02\x00",
		"a global fixed by a long 1":       "\x06\x05\x01\x7f\x81\x00\x00",
		"Bits of half a number":            "\x06\x04\x01\x7f\x00\x80",
		"Bits of 2^64":                     "\x06\x0d\x01\x7e\x00\x80\x80\x80\x80\x80\x80\x80\x80\x80\x02",
		"Bits of 2^32 of TypeI32":          "\x06\x08\x01\x7f\x00\x80\x80\x80\x80\x10",
		"Bits of 2^32 of TypeF32":          "\x06\x08\x01\x7d\x00\x80\x80\x80\x80\x10",
		"Bits of eleven bytes":             "\x06\x0e\x01\x7e\x00\x80\x80\x80\x80\x80\x80\x80\x80\x80\x80\x00",
		"fewer funcs than told":            "\x01\x06\x02\x00\x40\x00\x01\x0b",
		"more funcs than told":             "\x01\x0b\x01\x00\x40\x00\x01\x0b\x00\x40\x00\x01\x0b",
		"a byte behind the funcs":          "\x01\x07\x01\x00\x40\x00\x01\x0b\x00",
		"2^32 - 1 funcs":                   "\x01\x0a\xff\xff\xff\xff\x0f\x00\x40\x00\x01\x0b",
		"2^32 + 1 funcs":                   "\x01\x0a\x81\x80\x80\x80\x10\x00\x40\x00\x01\x0b",
		"2^32 + 1 funcs, longer":           "\x01\x0b\x81\x80\x80\x80\x90\x00\x00\x40\x00\x01\x0b",
		"how many funcs in six bytes":      "\x01\x0b\x81\x80\x80\x80\x80\x00\x00\x40\x00\x01\x0b",
		"2^32 - 1 Params":                  "\x01\x0a\x01\xff\xff\xff\xff\x0f\x40\x00\x01\x0b",
		"no Result":                        "\x01\x06\x01\x00\x00\x00\x01\x0b",
		"a Result in two bytes":            "\x01\x07\x01\x00\xc0\x00\x00\x01\x0b",
		"Param without type":               "\x01\x07\x01\x01\x40\x40\x00\x01\x0b",
		"Local without type":               "\x01\x07\x01\x00\x40\x01\x40\x01\x0b",
		"a body of no bytes":               "\x01\x05\x01\x00\x40\x00\x00",
		"a body of no bytes, with one":     "\x01\x06\x01\x00\x40\x00\x00\x0b",
		"a body of more bytes than are":    "\x01\x06\x01\x00\x40\x00\x02\x0b",
		"a body of 2^32 - 1 bytes":         "\x01\x0a\x01\x00\x40\x00\xff\xff\xff\xff\x0f\x0b",
		"a body of fewer than it has":      "\x01\x07\x01\x00\x40\x00\x01\x01\x0b",
		"a body that ends twice":           "\x01\x07\x01\x00\x40\x00\x02\x0b\x0b",
		"a body that does not end":         "\x01\x06\x01\x00\x40\x00\x01\x01",
		"a body of no instruction":         "\x01\x07\x01\x00\x40\x00\x02\x06\x0b",
		"a body with an InElse":            "\x01\x07\x01\x00\x40\x00\x02\x05\x0b",
		"a body cut in a number":           "\x01\x07\x01\x00\x40\x00\x02\x41\x0b",
		"an id without section":            "\x05",
		"an id without section behind":     memory + "\x08",
		"half a length":                    "\x05\x80",
		"a section cut short":              "\x05\x02\x00",
		"a section cut short behind":       funcs + "\x05\x03\x00\x00",
		"a byte behind all":                funcs + memory + "\x00",
		"a section's length beyond":        "\x05\x03\x00\x00",
		"a section's length below":         "\x05\x01\x00\x00",
		"a section's length in six bytes":  "\x05\x82\x80\x80\x80\x80\x00\x00\x00",
		"a section's length of 2^32 and 2": "\x05\x82\x80\x80\x80\x10\x00\x00",
		"Magic again":                      magic,
		"Magic behind":                     memory + magic,
	} {
		if code := checkReading(t, magic+s); code != impl.LoadForm {
			t.Errorf("%s: %x: %d", why, s, code)
		}
	}
}

// Sections of other ids tell nothing, wherever they stand and whatever is in them.
func TestOtherSections(t *testing.T) {
	m := impl.Module{Start: 0, Funcs: []impl.Func{funcOf(">", "", "end")}, Globals: []impl.Global{{Type: impl.TypeI32}}, Memory: true, Most: 1}
	l, ok := impl.ReadSections(wantModule(m)[4:])
	if !ok || len(l) != 4 {
		t.Fatal(l, ok)
	}
	for id := range 256 {
		for _, body := range []string{"", "\x00", "\x00\x00", "\x01\x7f\x00\x00"} {
			other := impl.Section{Id: id, Body: body}
			if !slices.Contains([]int{1, 5, 6, 8}, id) {
				checkAsReader(t, magic+wantSections([]impl.Section{other}), impl.LoadForm)
			}
			for at := range len(l) + 1 {
				checkAsReader(t, magic+wantSections(slices.Insert(slices.Clone(l), at, other)), impl.LoadForm)
			}
		}
		for at := range l { // one of its own under another id
			moved := slices.Clone(l)
			moved[at].Id = id
			checkReading(t, magic+wantSections(moved))
		}
	}
	for _, s := range []string{"\x00", "\x02", "\x03", "\x04", "\x07", "\x09", "\x14"} {
		checkAsReader(t, magic+s+"\x00", impl.LoadForm)
	}
}

// A byte for Fixed is 0 or 1.
func TestFixedByte(t *testing.T) {
	for b := range 256 {
		s := magic + "\x06\x07\x02\x7f\x01\x05\x7e" + string([]byte{byte(b)}) + "\x07"
		m, code := impl.ReadModule(s)
		if b > 1 {
			if code != impl.LoadForm || !equalModules(m, impl.Module{}) {
				t.Errorf("byte %d: %v, %d", b, m, code)
			}
			continue
		}
		want := []impl.Global{{Type: impl.TypeI32, Fixed: true, Bits: 5}, {Type: impl.TypeI64, Fixed: b == 1, Bits: 7}}
		if code != impl.LoadOk || !slices.Equal(m.Globals, want) {
			t.Errorf("byte %d: %v, %d", b, m, code)
		}
	}
}

// A body's length that is told lower or higher than it is: what stands there then is no func, or another one.
func TestBodyLengths(t *testing.T) {
	for _, body := range []string{"end", "nop nop end", "block end end", "i:11 i:11 drop end", "f:185273099 end", "I:1419 drop end"} {
		f := funcOf("i>", "f", body)
		code := wantCode(f.Body)
		for n := range 40 {
			s := "\x01\x7f\x40\x01\x7d" + string([]byte{byte(n)}) + code
			if took := checkTaking(t, s); n != len(code) && took != 0 {
				t.Errorf("%x: %d", s, took)
			}
			if took := checkTaking(t, s+"\x0b\x0b\x0b"); n == len(code) && took != 6+n {
				t.Errorf("%x: %d", s, took)
			}
			section := "\x01" + s
			checkReading(t, magic+"\x01"+string([]byte{byte(len(section))})+section)
		}
	}
}

// Promise 9: every module of these, cut anywhere, with any one byte changed, left out or put in.
func TestModulesWithOneByteWrong(t *testing.T) {
	met := [3]int{}
	for _, m := range someModules() {
		s := wantModule(m)
		for at := range len(s) + 1 {
			met[checkReading(t, s[:at])]++
			checkReading(t, s[at:])
			if at < len(s) {
				met[checkReading(t, s[:at]+s[at+1:])]++
			}
			for b := range 256 {
				one := string([]byte{byte(b)})
				met[checkReading(t, s[:at]+one+s[at:])]++
				if at < len(s) {
					met[checkReading(t, s[:at]+one+s[at+1:])]++
				}
			}
		}
	}
	if min(met[0], met[1], met[2]) < 500 {
		t.Error("too few:", met)
	}
}

func TestFuncsWithOneByteWrong(t *testing.T) {
	for _, m := range someModules() {
		for _, f := range m.Funcs {
			s := wantFunc(f)
			for at := range len(s) + 1 {
				checkTaking(t, s[:at])
				checkTaking(t, s[at:])
				for b := range 256 {
					one := string([]byte{byte(b)})
					checkTaking(t, s[:at]+one+s[at:])
					if at < len(s) {
						checkTaking(t, s[:at]+one+s[at+1:])
						checkTaking(t, s[:at]+one+s[at+1:]+"\x0b\x0b\x00\x00")
					}
				}
			}
		}
	}
}

// anyWrong: bytes that were right, changed here and there.
func anyWrong(r *rand.Rand, s string) string {
	b := []byte(s)
	for range 1 + r.Intn(3) {
		at := r.Intn(len(b) + 1)
		one := []byte{0, 1, 5, 6, 8, 11, 64, 125, 126, 127, 128, 255, byte(r.Intn(256))}[r.Intn(13)]
		switch n := min(r.Intn(6), len(b)-at); r.Intn(4) {
		case 0:
			b = slices.Insert(b, at, one)
		case 1:
			b = slices.Delete(b, at, at+n)
		case 2:
			b = slices.Insert(b, at, slices.Clone(b[at:at+n])...)
		default:
			if n > 0 {
				b[at] = one
			}
		}
	}
	return string(b)
}

// Promise 9: any bytes, many of them right but for some, held against the reader of these tests.
func TestAnyModulesRead(t *testing.T) {
	r := rand.New(rand.NewSource(93))
	met, taken := [3]int{}, 0
	for range 1500 {
		m := anyShaped(r)
		w := moduleWriter{which: r.Intn(60) - 1, by: r.Intn(3)}
		s := w.module(m)
		checkReading(t, s)
		for range 6 {
			met[checkReading(t, anyWrong(r, s))]++
			met[checkReading(t, magic+anyWrong(r, s[4:]))]++
		}
		for _, f := range m.Funcs {
			if checkTaking(t, anyWrong(r, wantFunc(f))) > 0 {
				taken++
			}
		}
	}
	if min(met[0], met[1], met[2], taken) < 500 {
		t.Error("too few:", fmt.Sprint(met, taken))
	}
}

// All texts of at most three bytes, as what stands in each section, and as funcs.
func TestShortSections(t *testing.T) {
	for a := range 256 {
		for b := range 256 {
			for _, s := range []string{string([]byte{byte(a)}), string([]byte{byte(a), byte(b)}), string([]byte{1, byte(a), byte(b), 0}), string([]byte{0, byte(a), 0, 1, byte(b)})} {
				checkTaking(t, s)
				for _, id := range []int{1, 5, 6, 8} {
					checkReading(t, magic+wantSections([]impl.Section{{Id: id, Body: s}}))
				}
			}
			checkReading(t, magic+"\x01\x06\x01\x00\x40\x00\x01\x0b\x08\x02"+string([]byte{byte(a), byte(b)}))
		}
	}
	checkAsReader(t, magic+"\x05\x02\x08\x08", impl.LoadOk)
	checkAsReader(t, magic+strings.Repeat("\x05\x02\x00\x00", 2000), impl.LoadForm)
	checkAsReader(t, magic+text(100000), impl.LoadForm)
}
