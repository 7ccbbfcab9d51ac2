package tests

import (
	"fmt"
	"math"
	"math/rand"
	"slices"
	"strings"
	"testing"

	"loop.example/g00209/impl"
)

// placeEdges: places and counts around where a memory of so many bytes ends, and around where there are none any more.
func placeEdges(size int) []int {
	l := []int{math.MinInt, -1 << 32, -1 << 31, -2, -1, 0, 1, 2, 3, 4, 7, 8, size / 2, 1<<31 - 1, 1 << 31, 1<<31 + 1, 1<<31 + size/2, 1<<31 + size/2 + 1, 1<<31 + size, 1<<32 - 8, 1<<32 - 2, 1<<32 - 1, 1 << 32, 1<<32 + 1, 1 << 62, math.MaxInt}
	for i := -9; i <= 9; i++ {
		l = append(l, size+i)
	}
	slices.Sort(l)
	return slices.Compact(l)
}

// Promise 13: texts at all places with all counts, at their edges.
func TestTextsTakenUpAtEdges(t *testing.T) {
	var faults [6]int
	for _, m := range []impl.Memory{{}, {Max: 8}, memoryOf(1, 1), memoryOf(1, 8), filledHeap(1, 'a', 0).Memory, filledHeap(2, 0, 0).Memory, filledHeap(1, 0xff, 0).Memory, filledHeap(1, 1, 0).Memory, filledHeap(8, 0xd8, 0).Memory} {
		for _, at := range placeEdges(len(m.Data)) {
			for _, count := range slices.Concat(placeEdges(len(m.Data)), []int{99, 100, 101, 199, 200, 201, 1<<31 + 66, 1<<31 + 67, 1<<31 + 100, 1<<31 + 101}) {
				for code := -1; code <= 5; code++ {
					_, fault := checkLiftText(t, m, at, count, code)
					faults[fault]++
				}
			}
		}
	}
	for _, fault := range []int{impl.LowerOk, impl.LowerBad, impl.LowerPlace, impl.LowerForm} {
		if faults[fault] < 100 {
			t.Error("too few of one code:", faults)
		}
	}
	for _, m := range badMemories() {
		for code := -1; code <= 5; code++ {
			if s, fault := impl.LiftText(m, 0, 0, code); s != "" || fault != impl.LowerBad {
				t.Errorf("LiftText of Max %d, %d bytes: %q, %d", m.Max, len(m.Data), s, fault)
			}
		}
	}
}

// memoryWith: a page of 0 with something at places.
func memoryWith(at int, s string) impl.Memory { return laid(filledHeap(1, 0, 0).Memory, at, s) }

// Promise 13: texts that lie there, and such as are none.
func TestTextsTakenUpWrittenOut(t *testing.T) {
	const u8, u16, compact, wide = impl.CodeUtf8, impl.CodeUtf16, impl.CodeLatin, 1 << 31
	for _, c := range []struct {
		bytes    string
		at       int
		count    int
		code     int
		s        string
		fault    int
		beginsAt int
	}{
		{"hi", 5, 2, u8, "hi", 0, 5}, {"hi", 254, 2, u8, "hi", 0, 254}, {"hi", 254, 3, u8, "", impl.LowerPlace, 254}, {"hi", 256, 0, u8, "", 0, 254}, {"hi", 257, 0, u8, "", impl.LowerPlace, 254}, {"hi", 255, 1, u8, "i", 0, 254},
		{"h\x00i\x00", 4, 2, u16, "hi", 0, 4}, {"h\x00i\x00", 5, 2, u16, "", impl.LowerPlace, 5}, {"", 5, 0, u16, "", impl.LowerPlace, 5}, {"", 5, 0, compact, "", impl.LowerPlace, 5}, {"", 5, wide, compact, "", impl.LowerPlace, 5}, {"", 256, 0, u16, "", 0, 0}, {"", 258, 0, u16, "", impl.LowerPlace, 0}, {"", 256, 0, compact, "", 0, 0}, {"", 257, 0, compact, "", impl.LowerPlace, 0},
		{"h\x00i\x00", 252, 2, u16, "hi", 0, 252}, {"h\x00i\x00", 252, 3, u16, "", impl.LowerPlace, 252}, {"h\x00i\x00", 254, 1, u16, "i", 0, 252}, {"h\x00i\x00", 254, 2, u16, "", impl.LowerPlace, 252},
		{"hi\xe4", 4, 3, compact, "hi\u00e4", 0, 4}, {"hi\xe4", 4, 3, u8, "", impl.LowerForm, 4}, {"hi", 254, 2, compact, "hi", 0, 254}, {"hi", 254, 3, compact, "", impl.LowerPlace, 254},
		{"\xac\x20", 4, wide + 1, compact, "\u20ac", 0, 4}, {"\xac\x20", 254, wide + 1, compact, "\u20ac", 0, 254}, {"\xac\x20", 254, wide + 2, compact, "", impl.LowerPlace, 254}, {"\xac\x20", 4, wide + 1, u16, "", impl.LowerPlace, 4}, {"\xac\x20", 4, wide + 1, u8, "", impl.LowerPlace, 4},
		// Wide, but it need not be.
		{"a\x00", 4, wide + 1, compact, "", impl.LowerForm, 4}, {"\xff\x00", 4, wide + 1, compact, "", impl.LowerForm, 4}, {"\x00\x01", 4, wide + 1, compact, "\u0100", 0, 4}, {"a\x00\x00\x01", 4, wide + 2, compact, "a\u0100", 0, 4}, {"", 4, wide, compact, "", impl.LowerForm, 4}, {"", 256, wide, compact, "", impl.LowerForm, 4}, {"", 258, wide, compact, "", impl.LowerPlace, 4},
		// Halves.
		{"\x3d\xd8\x00\xde", 4, 2, u16, "\U0001f600", 0, 4}, {"\x3d\xd8\x00\xde", 4, wide + 2, compact, "\U0001f600", 0, 4}, {"\x3d\xd8\x00\xde", 4, 1, u16, "", impl.LowerForm, 4}, {"\x3d\xd8\x00\xde", 6, 1, u16, "", impl.LowerForm, 4}, {"\x00\xde\x3d\xd8", 4, 2, u16, "", impl.LowerForm, 4}, {"\x3d\xd8\x00\xde", 4, wide + 1, compact, "", impl.LowerForm, 4},
		{"\xc3", 5, 1, u8, "", impl.LowerForm, 5}, {"\xc3\xa4", 5, 2, u8, "\u00e4", 0, 5}, {"\xed\xa0\x80", 5, 3, u8, "", impl.LowerForm, 5}, {"\xfd\xff", 4, 1, u16, "\ufffd", 0, 4},
		{text(201), 4, 200, u8, text(200), 0, 4}, {text(201), 4, 201, u8, "", impl.LowerForm, 4}, {text(201), 4, 201, compact, "", impl.LowerForm, 4}, {text(201), 4, 200, compact, text(200), 0, 4},
		{strings.Repeat("\xe4", 101), 4, 100, compact, strings.Repeat("\u00e4", 100), 0, 4}, {strings.Repeat("\xe4", 101), 4, 101, compact, "", impl.LowerForm, 4}, {strings.Repeat("\x00\x01", 101), 4, 100, u16, strings.Repeat("\u0100", 100), 0, 4}, {strings.Repeat("\x00\x01", 101), 4, 101, u16, "", impl.LowerForm, 4},
		{strings.Repeat("\x00\x20", 67), 4, wide + 66, compact, strings.Repeat("\u2000", 66), 0, 4}, {strings.Repeat("\x00\x20", 67), 4, wide + 67, compact, "", impl.LowerForm, 4},
		{"", 1<<32 - 1, 0, u8, "", impl.LowerPlace, 0}, {"", 0, 1<<32 - 1, u8, "", impl.LowerPlace, 0}, {"", 0, 1<<32 - 1, u16, "", impl.LowerPlace, 0}, {"", 0, 1<<32 - 1, compact, "", impl.LowerPlace, 0}, {"", 0, 1<<31 - 1, compact, "", impl.LowerPlace, 0},
		{"", 1 << 32, 0, u8, "", impl.LowerBad, 0}, {"", 0, 1 << 32, u8, "", impl.LowerBad, 0}, {"", -1, 0, u8, "", impl.LowerBad, 0}, {"", 0, -1, u8, "", impl.LowerBad, 0}, {"", 0, 0, 0, "", impl.LowerBad, 0}, {"", 0, 0, 4, "", impl.LowerBad, 0}, {"", 257, 0, 4, "", impl.LowerBad, 0},
	} {
		m := memoryWith(c.beginsAt, c.bytes)
		if s, fault := checkLiftText(t, m, c.at, c.count, c.code); s != c.s || fault != c.fault {
			t.Errorf("LiftText of %.40q, %d, %d, %d: %q, %d; want %q, %d", c.bytes, c.at, c.count, c.code, s, fault, c.s, c.fault)
		}
	}
}

// Promise 13: any bytes taken up as texts.
func TestAnyTextsTakenUp(t *testing.T) {
	r := rand.New(rand.NewSource(136))
	var faults [6]int
	for range 50000 {
		m := filledHeap(1, byte(r.Intn(3)*50), 0).Memory
		at := r.Intn(40) * 2
		s := anyText(r)
		if code := threeCodes[r.Intn(3)]; r.Intn(2) == 0 {
			if p, ok := wantPoints(anyPoints(r), code); ok {
				s = p
			}
		}
		m = laid(m, at, s)
		count := max(0, len(s)/(1+r.Intn(2))+r.Intn(3)-1) + r.Intn(2)<<31
		_, fault := checkLiftText(t, m, at+r.Intn(8)/7, count, threeCodes[r.Intn(3)])
		faults[fault]++
	}
	if faults[impl.LowerOk] < 5000 || faults[impl.LowerPlace] < 1000 || faults[impl.LowerForm] < 5000 {
		t.Error("too few of one code:", faults)
	}
}

// Promise 13: each byte in the place of a number: a bool, the number of a case, of an option, a result and an enum, flags.
func TestNumbersTakenUp(t *testing.T) {
	number := func(kind string, b int) (int, int) {
		t.Helper()
		l, fault := checkLift(t, memoryWith(8, string([]byte{byte(b), byte(b >> 8), byte(b >> 16), byte(b >> 24)})), typeTold(kind), 8, impl.CodeUtf8)
		if fault != impl.LowerOk {
			return 0, fault
		}
		return l[0].N, fault
	}
	for b := range 256 {
		for kind, most := range map[string]int{"option<u8>": 2, "result<u8,u16>": 2, "variant<u8>": 1, "variant<u8,u16,u32,u64,s8>": 5, "variant<u8,u8,u8,u8,u8,u8,u8,u64>": 8, "enum<1>": 1, "enum<2>": 2, "enum<255>": 255, "enum<256>": 256, "u8": 256} {
			n, fault := number(kind, b)
			if good := b < most; good && (n != b || fault != impl.LowerOk) || !good && fault != impl.LowerForm {
				t.Errorf("%s of byte %d: %d, %d", kind, b, n, fault)
			}
		}
		if n, fault := number("bool", b); n != min(b, 1) || fault != impl.LowerOk {
			t.Errorf("bool of byte %d: %d, %d", b, n, fault)
		}
		if n, fault := number("s8", b); n != int(int8(b)) || fault != impl.LowerOk {
			t.Errorf("s8 of byte %d: %d, %d", b, n, fault)
		}
		for many := 1; many <= 8; many++ {
			if n, fault := number(fmt.Sprintf("flags<%d>", many), b); n != b&(1<<many-1) || fault != impl.LowerOk {
				t.Errorf("flags<%d> of byte %d: %d, %d", many, b, n, fault)
			}
		}
	}
	for b := range 65536 {
		for _, many := range []int{257, 300} {
			n, fault := number(fmt.Sprintf("enum<%d>", many), b)
			if good := b < many; good && (n != b || fault != impl.LowerOk) || !good && fault != impl.LowerForm {
				t.Errorf("enum<%d> of %d: %d, %d", many, b, n, fault)
			}
		}
	}
	for _, b := range []int{0, 1, 0xffff, 0x8000, 0x7fff, 0xffffffff, 0x80000000, 0x7fffffff, 0x12345678} {
		for many := 9; many <= 32; many++ {
			if n, fault := number(fmt.Sprintf("flags<%d>", many), b); n != b&(1<<many-1) || fault != impl.LowerOk {
				t.Errorf("flags<%d> of %x: %x, %d", many, b, n, fault)
			}
		}
		for kind, want := range map[string]int{"u16": b & 0xffff, "s16": int(int16(b)), "u32": b, "s32": int(int32(b))} {
			if n, fault := number(kind, b); n != want || fault != impl.LowerOk {
				t.Errorf("%s of %x: %d, %d", kind, b, n, fault)
			}
		}
	}
	for b, good := range map[int]bool{0: true, 65: true, 55295: true, 55296: false, 57343: false, 57344: true, 1114111: true, 1114112: false, 1 << 31: false, 1<<32 - 1: false, 1 << 24: false} {
		if n, fault := number("char", b); good && (n != b || fault != impl.LowerOk) || !good && fault != impl.LowerForm {
			t.Errorf("char of %d: %d, %d", b, n, fault)
		}
	}
	for b, want := range map[int]int{0: 0, 1: 1, 0x80000000: 0x80000000, 0x7f800000: 0x7f800000, 0xff800000: 0xff800000, 0x7fc00000: 0x7fc00000, 0x7f800001: 0x7fc00000, 0x7fc00001: 0x7fc00000, 0x7fffffff: 0x7fc00000, 0xffc00000: 0x7fc00000, 0xffffffff: 0x7fc00000, 0xff800001: 0x7fc00000, 0x3f800000: 0x3f800000} {
		if n, fault := number("f32", b); n != want || fault != impl.LowerOk {
			t.Errorf("f32 of %x: %x, %d", b, n, fault)
		}
	}
}

// Promise 13: values at all places, and at such as are none.
func TestValuesTakenUpAtEdges(t *testing.T) {
	for _, kind := range []string{"u8", "u16", "u32", "u64", "string", "list<u8>", "record<u8,u16>", "record<u8,u64>", "option<u32>", "variant<u8,u64>", "flags<9>", "enum<300>"} {
		x := typeTold(kind)
		size, align, _ := wantRoom(x)
		for _, m := range []impl.Memory{{}, filledHeap(1, 0, 0).Memory, filledHeap(8, 0, 0).Memory} {
			for _, at := range placeEdges(len(m.Data)) {
				_, fault := checkLift(t, m, x, at, impl.CodeUtf8)
				want := impl.LowerOk
				switch {
				case at < 0 || at > 1<<32-1:
					want = impl.LowerBad
				case at%align != 0 || at+size > len(m.Data):
					want = impl.LowerPlace
				}
				if fault != want {
					t.Errorf("%s at %d of %d bytes: %d, want %d", kind, at, len(m.Data), fault, want)
				}
				for _, code := range []int{-1, 0, 4, math.MaxInt} {
					if l, fault := checkLift(t, m, x, at, code); len(l) > 0 || fault != impl.LowerBad {
						t.Errorf("%s in code %d: %v, %d", kind, code, l, fault)
					}
				}
			}
		}
		for _, m := range badMemories() {
			if l, fault := checkLift(t, m, x, 0, impl.CodeUtf8); len(l) > 0 || fault != impl.LowerBad {
				t.Errorf("%s in a memory that is not good: %v, %d", kind, l, fault)
			}
		}
	}
}

// both: a place and a count, in four bytes each.
func both(place int, count int) string {
	g := &ground{bytes: make([]byte, 8)}
	g.write(0, place, 4)
	g.write(4, count, 4)
	return string(g.bytes)
}

// Promise 13: lists and texts whose places and counts are at their edges, alone and within others.
func TestPlacesTakenUp(t *testing.T) {
	var faults [6]int
	for _, kind := range []string{"list<u8>", "list<u16>", "list<u64>", "list<string>", "list<record<u32,u8>>", "list<list<u8>>", "string"} {
		x := typeTold(kind)
		for _, place := range placeEdges(256) {
			for _, count := range slices.Concat(placeEdges(256), []int{16, 31, 32, 33, 63, 64, 65, 128, 129}) {
				if place>>32 != 0 || count>>32 != 0 {
					continue
				}
				for _, code := range threeCodes {
					m := memoryWith(16, both(place, count))
					_, fault := checkLift(t, m, x, 16, code)
					faults[fault]++
					checkLift(t, laid(m, 12, "\x01"), tree("option", x), 12, code)
					checkLift(t, m, tree("record", tree("u32"), x, tree("char")), 12, code)
					checkLift(t, laid(m, 0, both(16, 1)), tree("list", x), 0, code)
				}
			}
		}
	}
	if faults[impl.LowerOk] < 100 || faults[impl.LowerPlace] < 1000 || faults[impl.LowerForm] < 10 || faults[impl.LowerSize] < 10 {
		t.Error("too few of one code:", faults)
	}
	for _, c := range []struct {
		kind         string
		place, count int
		fault        int
	}{
		{"list<u8>", 256, 0, 0}, {"list<u8>", 257, 0, impl.LowerPlace}, {"list<u8>", 1<<32 - 1, 0, impl.LowerPlace}, {"list<u8>", 255, 1, 0}, {"list<u8>", 255, 2, impl.LowerPlace}, {"list<u8>", 0, 1<<32 - 1, impl.LowerPlace}, {"list<u8>", 1<<32 - 1, 1<<32 - 1, impl.LowerPlace},
		{"list<u32>", 254, 0, impl.LowerPlace}, {"list<u32>", 256, 0, 0}, {"list<u32>", 260, 0, impl.LowerPlace}, {"list<u32>", 252, 1, 0}, {"list<u32>", 252, 2, impl.LowerPlace}, {"list<u32>", 253, 1, impl.LowerPlace}, {"list<u32>", 250, 1, impl.LowerPlace}, {"list<u64>", 4, 1, impl.LowerPlace}, {"list<u64>", 8, 1, 0}, {"list<u64>", 0, 1 << 29, impl.LowerPlace}, {"list<u64>", 0, 1<<29 + 1, impl.LowerPlace},
		{"list<u8>", 0, 99, 0}, {"list<u8>", 0, 100, impl.LowerSize}, {"list<u8>", 0, 256, impl.LowerSize}, {"list<u8>", 0, 257, impl.LowerPlace}, {"list<u64>", 0, 32, 0}, {"list<u64>", 0, 33, impl.LowerPlace},
	} {
		if _, fault := checkLift(t, memoryWith(16, both(c.place, c.count)), typeTold(c.kind), 16, impl.CodeUtf8); fault != c.fault {
			t.Errorf("%+v: %d", c, fault)
		}
	}
}

// Promise 13: values of as many nodes as there may be, and of one more.
func TestValuesOfAllSizesTakenUp(t *testing.T) {
	for _, c := range []struct {
		kind string
		each int
		more int
	}{{"list<u8>", 1, 0}, {"list<bool>", 1, 0}, {"list<record<u8,u8,u8>>", 4, 0}, {"list<variant<u8>>", 2, 0}, {"list<record<u8,variant<u8>>>", 4, 0}, {"list<option<u8>>", 1, 0}, {"list<result<record<u8>,u8>>", 3, 0}, {"list<string>", 1, 0}, {"list<list<u8>>", 1, 0}, {"record<list<u8>,u8>", 1, 2}, {"record<u8,list<record<u8>>>", 2, 2}, {"record<list<u8>,list<u8>,u8,u8>", 1, 4}} {
		x := typeTold(c.kind)
		size, align, offsets := wantRoom(x)
		at := firstFit(64, align)
		for count := range 130 {
			m := filledHeap(8, 0, 0).Memory
			for i := range max(1, len(x.parts)) {
				if x.kind == impl.KindList {
					m = laid(m, at, both(firstFit(at+size, 8), count))
				} else if x.parts[i].kind == impl.KindList {
					m = laid(m, at+offsets[i], both(firstFit(at+size, 8), count))
					// The other list stays empty.
					break
				}
			}
			l, fault := checkLift(t, m, x, at, impl.CodeUtf8)
			nodes := 1 + c.more + c.each*count
			if good := nodes <= 100; good && (fault != impl.LowerOk || len(l) != nodes) || !good && fault != impl.LowerSize {
				t.Errorf("%s, %d parts: %d, %d; want %d nodes", c.kind, count, len(l), fault, nodes)
			}
		}
	}
}

// Promise 13: which fault is told where there are several: the first that is met, each part ahead of those behind it.
func TestFirstFaultTakenUp(t *testing.T) {
	chars := func(many int, bad ...int) string {
		b := make([]byte, 4*many)
		for _, i := range bad {
			b[4*i+3] = 1
		}
		return string(b)
	}
	for _, c := range []struct {
		what  string
		kind  string
		bytes string
		at    int
		fault int
	}{
		{"a char ahead of a text's place", "record<char,string>", "\xff\xff\xff\xff" + both(5000, 1), 0, impl.LowerForm},
		{"a text's place ahead of a char", "record<string,char>", both(5000, 1) + "\xff\xff\xff\xff", 0, impl.LowerPlace},
		{"a list's place ahead of a char", "record<list<u8>,char>", both(5000, 1) + "\xff\xff\xff\xff", 0, impl.LowerPlace},
		{"a char ahead of a list's place", "record<char,list<u8>>", "\xff\xff\xff\xff" + both(5000, 1), 0, impl.LowerForm},
		{"an own place that is none ahead of a char", "record<u64,char>", strings.Repeat("\xff", 32), 4, impl.LowerPlace},
		{"a case's number ahead of its part", "variant<string>", "\x01\x00\x00\x00" + both(5000, 1), 0, impl.LowerForm},
		{"a part of a case that is there", "variant<string>", "\x00\x00\x00\x00" + both(5000, 1), 0, impl.LowerPlace},
		{"nothing of an option's part that is not there", "option<string>", "\x00\x00\x00\x00" + both(5000, 1), 0, impl.LowerOk},
		{"an option's number ahead of its part", "option<string>", "\x02\x00\x00\x00" + both(5000, 1), 0, impl.LowerForm},
		{"a text's place ahead of its form", "string", both(1023, 2) + strings.Repeat("\xff", 1016), 0, impl.LowerPlace},
		{"all that a part has ahead of the next one", "record<list<char>,string>", both(16, 1) + both(5000, 1) + "\xff\xff\xff\xff", 0, impl.LowerForm},
		{"all that a part has ahead of the next one", "list<list<char>>", both(8, 2) + both(24, 1) + both(5000, 1) + "\xff\xff\xff\xff", 0, impl.LowerForm},
		{"the first of a list's parts", "list<list<char>>", both(8, 2) + both(5000, 1) + both(24, 1) + "\xff\xff\xff\xff", 0, impl.LowerPlace},
		{"a list's place ahead of its parts", "list<char>", both(8, 1000) + "\xff\xff\xff\xff", 0, impl.LowerPlace},
		{"a list's place ahead of too many nodes", "list<u64>", both(8, 200), 0, impl.LowerPlace},
		{"too many nodes", "list<char>", both(8, 100) + chars(100), 0, impl.LowerSize},
		{"the first char ahead of too many nodes", "list<char>", both(8, 150) + chars(150, 0), 0, impl.LowerForm},
		{"the last char that may be there ahead of too many nodes", "list<char>", both(8, 150) + chars(150, 98), 0, impl.LowerForm},
		{"too many nodes ahead of what the first of these is", "list<char>", both(8, 150) + chars(150, 99), 0, impl.LowerSize},
		{"too many nodes ahead of the chars behind", "list<char>", both(8, 150) + chars(150, 100, 149), 0, impl.LowerSize},
		{"too many nodes ahead of a text behind", "record<list<u8>,string>", both(16, 120) + both(5000, 1), 0, impl.LowerSize},
		{"a text ahead of too many nodes", "record<string,list<u8>>", both(5000, 1) + both(16, 120), 0, impl.LowerPlace},
		{"a char of just enough nodes", "list<char>", both(8, 99) + chars(99, 98), 0, impl.LowerForm},
	} {
		x := typeTold(c.kind)
		m := laid(filledHeap(4, 0, 0).Memory, 0, c.bytes)
		if _, fault := checkLift(t, m, x, c.at, impl.CodeUtf8); fault != c.fault {
			t.Errorf("%s: %s is %d, want %d", c.what, c.kind, fault, c.fault)
		}
		// What is not as said comes ahead of all.
		for _, at := range []int{-1, 1 << 32} {
			if _, fault := checkLift(t, m, x, at, impl.CodeUtf8); fault != impl.LowerBad {
				t.Errorf("%s at %d: %d", c.kind, at, fault)
			}
		}
		if _, fault := checkLift(t, m, tree("record", x, counted("own", 1)), c.at, impl.CodeUtf8); fault != impl.LowerBad {
			t.Errorf("%s beside a handle: %d", c.kind, fault)
		}
	}
}

// Promise 13: what is taken up of bytes that are nearly those of a value, at its place or near it, in its code or another.
func TestSpoiltValuesTakenUp(t *testing.T) {
	r := rand.New(rand.NewSource(137))
	var faults [6]int
	for range 40000 {
		x := handless(anyTree(r, 1+r.Intn(15), 1+r.Intn(5)))
		code := threeCodes[r.Intn(3)]
		h, at, fault := impl.LowerValue(heapOf(8, r.Intn(60)), x.nodes(), anyValue(r, x, []int{10, 100}[r.Intn(2)]).nodes(), code)
		if fault != impl.LowerOk {
			continue
		}
		b := []byte(h.Memory.Data)
		for range 1 + r.Intn(3) {
			place := at + r.Intn(h.Next-at)
			b[place] = []byte{0, 1, 2, 0x7f, 0x80, 0xd8, 0xdc, 0xff, b[place] + 1, b[place] - 1, byte(r.Intn(256))}[r.Intn(11)]
		}
		if r.Intn(8) == 0 {
			at += r.Intn(9) - 4
		}
		if r.Intn(8) == 0 {
			code = threeCodes[r.Intn(3)]
		}
		_, fault = checkLift(t, impl.Memory{Max: 8, Data: string(b)}, x, at, code)
		faults[fault]++
	}
	if slices.Min([]int{faults[impl.LowerOk], faults[impl.LowerPlace], faults[impl.LowerForm]}) < 500 || faults[impl.LowerSize] < 20 || faults[impl.LowerBad] < 5 {
		t.Error("too few of one code:", faults)
	}
}

// Promise 13: what is taken up of any bytes is laid down and taken up again.
func TestAnyBytesTakenUp(t *testing.T) {
	r := rand.New(rand.NewSource(138))
	var faults [6]int
	for range 40000 {
		x := handless(anyTree(r, 1+r.Intn(8), 1+r.Intn(4)))
		b := make([]byte, 256*(1+r.Intn(2)))
		for i := range b {
			if r.Intn(4) == 0 {
				b[i] = []byte{1, 2, 3, 4, 8, 16, 64, byte(r.Intn(256))}[r.Intn(8)]
			}
		}
		m, code := impl.Memory{Max: 4, Data: string(b)}, threeCodes[r.Intn(3)]
		l, fault := checkLift(t, m, x, r.Intn(32)*8, code)
		faults[fault]++
		if fault == impl.LowerOk {
			checkLaid(t, heapOf(8, r.Intn(9)), x, l, code)
		}
	}
	if slices.Min([]int{faults[impl.LowerOk], faults[impl.LowerPlace], faults[impl.LowerForm]}) < 1000 || faults[impl.LowerSize] < 5 {
		t.Error("too few of one code:", faults)
	}
}
