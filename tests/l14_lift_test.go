package tests

import (
	"fmt"
	"math"
	"math/rand"
	"slices"
	"testing"

	"loop.example/g00209/impl"
)

// Promise 14: too few words, too many, one of another type, one that is not good: LowerBad, ahead of all else.
func TestWordsOfOtherTypes(t *testing.T) {
	m := filledHeap(1, 0, 0).Memory
	for _, kind := range []string{"u8", "u64", "f32", "string", "list<u8>", "record<u8,u64,f32>", "option<u64>", "option<f32>", "variant<u8,record<f32,u64,string>>", "result<f32,u8>", "record<option<u64>,u8>"} {
		x := typeTold(kind)
		many := len(wantFlat(x))
		row := wordsIn(x, make([]uint64, many))
		if _, fault := checkLiftFlat(t, m, x, row, impl.CodeUtf8); fault != impl.LowerOk {
			t.Errorf("%s of words 0: %d", kind, fault)
		}
		bad := func(what string, l []impl.Word) {
			t.Helper()
			if got, fault := checkLiftFlat(t, m, x, l, impl.CodeUtf8); len(got) > 0 || fault != impl.LowerBad {
				t.Errorf("%s, %s: %v, %d", kind, what, got, fault)
			}
		}
		bad("no words", nil)
		bad("no words", []impl.Word{})
		for n := range many {
			bad("too few words", row[:n])
		}
		for _, kind := range []int{impl.TypeI32, impl.TypeI64, impl.TypeF32, 0} {
			bad("one too many", append(slices.Clone(row), impl.Word{Type: kind}))
			for i := range row {
				if other := slices.Clone(row); kind != row[i].Type {
					other[i].Type = kind
					bad("another type", other)
					// Also where the words ahead have a fault.
					other[0].Bits = 1000
					bad("another type", other)
				}
			}
		}
		bad("many words", slices.Repeat(row, 100000))
		for i := range row {
			for _, b := range []uint64{1 << 32, 1<<32 + 1, math.MaxUint64} {
				other := slices.Clone(row)
				if other[i].Bits = b; other[i].Type != impl.TypeI64 {
					bad("bits beyond a word's type", other)
				}
			}
		}
	}
}

// Promise 14: words of what is left are not looked at, whatever they are.
func TestWordsLeftOver(t *testing.T) {
	m := filledHeap(1, 'a', 0).Memory
	for _, c := range []struct{ kind, words, value string }{
		{"option<u8>", "i:0 i:77", "none"}, {"option<u64>", "i:0 I:-1", "none"}, {"option<char>", "i:0 i:-1", "none"}, {"option<f32>", "i:0 f:4294967295", "none"}, {"option<string>", "i:0 i:-1 i:-1", "none"}, {"option<list<u64>>", "i:0 i:3 i:-1", "none"}, {"option<enum<3>>", "i:0 i:3", "none"}, {"option<option<u8>>", "i:0 i:2 i:2", "none"}, {"option<option<u8>>", "i:1 i:0 i:2", "some:none"},
		{"variant<u8,string>", "i:0 i:5 i:-1", "0:5"}, {"variant<u8,record<u8,char,char>>", "i:0 i:5 i:-1 i:-1", "0:5"}, {"variant<u8,record<u64,u64,f32>>", "i:0 I:5 I:-1 f:-1", "0:5"}, {"result<string,u8>", "i:1 i:7 i:-1", "err:7"}, {"result<record<u8,list<u64>>,bool>", "i:1 i:7 i:-1 i:-1", "err:true"},
		{"record<option<string>,u8>", "i:0 i:-1 i:-1 i:9", "(none,9)"}, {"record<variant<u8,string>,variant<u8,string>>", "i:0 i:5 i:-1 i:1 i:2 i:3", `(0:5,1:"aaa")`},
		{"variant<option<u8>,record<u64,u64,u64>>", "i:0 I:0 I:-1 I:-1", "0:none"}, {"variant<option<u8>,record<u64,u64,u64>>", "i:0 I:1 I:7 I:-1", "0:some:7"},
		// Bits beyond those of what was put there are not looked at either.
		{"variant<option<u8>,record<u64,u64,u64>>", "i:0 I:4294967296 I:-1 I:-1", "0:none"}, {"variant<option<u8>,record<u64,u64,u64>>", "i:0 I:4294967297 I:4294967303 I:-1", "0:some:7"},
		{"variant<f32,u64,s8>", "i:2 I:-3", "2:-3"}, {"variant<f32,u64,s8>", "i:0 I:-4294967295", "0:1"}, {"variant<bool,u64>", "i:0 I:4294967296", "0:false"}, {"variant<bool,u64>", "i:0 I:8589934592", "0:false"}, {"variant<bool,u64>", "i:0 I:2147483648", "0:true"}, {"variant<char,u64>", "i:0 I:4294967361", "0:65"}, {"variant<enum<2>,u64>", "i:0 I:4294967297", "0:1"}, {"variant<flags<3>,u64>", "i:0 I:-1", "0:7"}, {"variant<u32,u64>", "i:0 I:-1", "0:4294967295"}, {"variant<s32,u64>", "i:0 I:4294967295", "0:-1"}, {"variant<s32,u64>", "i:0 I:8589934591", "0:-1"},
		{"variant<string,record<u64,u64>>", "i:0 I:4294967297 I:4294967298", `0:"aa"`}, {"variant<list<u8>,record<u64,u64>>", "i:0 I:4294967297 I:-4294967294", "0:[97,97]"}, {"variant<f32,u8>", "i:0 i:4294967295", "0:2143289344"},
	} {
		x := typeTold(c.kind)
		l, fault := checkLiftFlat(t, m, x, wordsOf(c.words), impl.CodeUtf8)
		if s, _ := impl.ValueText(x.nodes(), l); s != c.value || fault != impl.LowerOk {
			t.Errorf("%+v: %s, %d", c, s, fault)
		}
	}
}

// Promise 14: any word in the place of a number: bools, numbers of a case, an option, a result and an enum, chars, flags,
// floats, and numbers of fewer bits.
func TestNumbersOfWords(t *testing.T) {
	number := func(kind string, b uint64) (int, int) {
		t.Helper()
		x := typeTold(kind)
		row := make([]uint64, len(wantFlat(x)))
		row[0] = b
		l, fault := checkLiftFlat(t, impl.Memory{}, x, wordsIn(x, row), impl.CodeUtf8)
		if fault != impl.LowerOk {
			return 0, fault
		}
		// The same in a place of TypeI64, with other bits beyond.
		if wantFlat(x)[0] != 'I' {
			outer := tree("variant", tree("u64"), x)
			row = append([]uint64{1, b + 0xabcd<<32}, make([]uint64, len(row)-1)...)
			inner, fault := checkLiftFlat(t, impl.Memory{}, outer, wordsIn(outer, row), impl.CodeUtf8)
			if fault != impl.LowerOk || inner[1].N != l[0].N {
				t.Errorf("%s of %x: %v, in a place of TypeI64 %v, %d", kind, b, l, inner, fault)
			}
		}
		return l[0].N, fault
	}
	var edges []uint64
	for _, b := range edgeWords() {
		edges = append(edges, b%(1<<32))
	}
	for b := range uint64(310) {
		edges = append(edges, b, b<<8, b<<16)
	}
	for _, b := range edges {
		for kind, most := range map[string]uint64{"option<u8>": 2, "result<u8,u16>": 2, "variant<u8>": 1, "variant<u8,u16,u32,s8,s8>": 5, "variant<u8,u8,u8,u8,u8,u8,u8,f32>": 8, "enum<1>": 1, "enum<2>": 2, "enum<255>": 255, "enum<256>": 256, "enum<257>": 257, "enum<300>": 300} {
			n, fault := number(kind, b)
			if good := b < most; good && (n != int(b) || fault != impl.LowerOk) || !good && fault != impl.LowerForm {
				t.Errorf("%s of %d: %d, %d", kind, b, n, fault)
			}
		}
		for many := 1; many <= 32; many++ {
			if n, fault := number(fmt.Sprintf("flags<%d>", many), b); n != int(b&(1<<many-1)) || fault != impl.LowerOk {
				t.Errorf("flags<%d> of %x: %x, %d", many, b, n, fault)
			}
		}
		for kind, want := range map[string]int{"bool": int(min(b, 1)), "u8": int(uint8(b)), "s8": int(int8(b)), "u16": int(uint16(b)), "s16": int(int16(b)), "u32": int(uint32(b)), "s32": int(int32(b)), "u64": int(b), "s64": int(b)} {
			if n, fault := number(kind, b); n != want || fault != impl.LowerOk {
				t.Errorf("%s of %x: %d, %d", kind, b, n, fault)
			}
		}
	}
	for _, b := range edgeWords() {
		for _, kind := range []string{"u64", "s64"} {
			if n, fault := number(kind, b); n != int(b) || fault != impl.LowerOk {
				t.Errorf("%s of %x: %d, %d", kind, b, n, fault)
			}
		}
	}
	for b, good := range map[uint64]bool{0: true, 65: true, 55295: true, 55296: false, 57343: false, 57344: true, 1114111: true, 1114112: false, 1 << 31: false, 1<<32 - 1: false, 1 << 24: false} {
		if n, fault := number("char", b); good && (n != int(b) || fault != impl.LowerOk) || !good && fault != impl.LowerForm {
			t.Errorf("char of %d: %d, %d", b, n, fault)
		}
	}
	for b, want := range map[uint64]int{0: 0, 1: 1, 0x80000000: 0x80000000, 0x7f800000: 0x7f800000, 0xff800000: 0xff800000, 0x7fc00000: 0x7fc00000, 0x7f800001: 0x7fc00000, 0x7fc00001: 0x7fc00000, 0x7fffffff: 0x7fc00000, 0xffc00000: 0x7fc00000, 0xffffffff: 0x7fc00000, 0xff800001: 0x7fc00000, 0x3f800000: 0x3f800000} {
		if n, fault := number("f32", b); n != want || fault != impl.LowerOk {
			t.Errorf("f32 of %x: %x, %d", b, n, fault)
		}
	}
}

// Promise 14: texts and lists whose places and counts are at their edges, alone and within others.
func TestPlacesOfWords(t *testing.T) {
	var faults [6]int
	for _, kind := range []string{"list<u8>", "list<u16>", "list<u64>", "list<string>", "list<record<u32,u8>>", "list<list<u8>>", "string"} {
		x := typeTold(kind)
		for _, place := range placeEdges(256) {
			for _, count := range slices.Concat(placeEdges(256), []int{16, 31, 32, 33, 63, 64, 65, 128, 129}) {
				if place>>32 != 0 || count>>32 != 0 {
					continue
				}
				row := []uint64{uint64(place), uint64(count)}
				for _, code := range threeCodes {
					m := memoryWith(16, both(place, count))
					_, fault := checkLiftFlat(t, m, x, wordsIn(x, row), code)
					faults[fault]++
					wide := tree("variant", tree("record", tree("u64"), tree("u64"), tree("u64")), x)
					checkLiftFlat(t, m, wide, wordsIn(wide, append([]uint64{1, row[0] + 7<<32, row[1] + 5<<32}, math.MaxUint64)), code)
					beside := tree("record", tree("u32"), x, tree("char"))
					checkLiftFlat(t, m, beside, wordsIn(beside, []uint64{9, row[0], row[1], 65}), code)
					outer := tree("list", x)
					checkLiftFlat(t, m, outer, wordsIn(outer, []uint64{16, 1}), code)
				}
			}
		}
	}
	if faults[impl.LowerOk] < 100 || faults[impl.LowerPlace] < 1000 || faults[impl.LowerForm] < 10 || faults[impl.LowerSize] < 10 {
		t.Error("too few of one code:", faults)
	}
	for _, c := range []struct {
		kind  string
		words string
		fault int
	}{
		{"list<u8>", "i:256 i:0", 0}, {"list<u8>", "i:257 i:0", impl.LowerPlace}, {"list<u8>", "i:-1 i:0", impl.LowerPlace}, {"list<u8>", "i:255 i:1", 0}, {"list<u8>", "i:255 i:2", impl.LowerPlace}, {"list<u8>", "i:0 i:-1", impl.LowerPlace}, {"list<u8>", "i:-1 i:-1", impl.LowerPlace},
		{"list<u32>", "i:254 i:0", impl.LowerPlace}, {"list<u32>", "i:256 i:0", 0}, {"list<u32>", "i:252 i:1", 0}, {"list<u32>", "i:252 i:2", impl.LowerPlace}, {"list<u32>", "i:253 i:1", impl.LowerPlace}, {"list<u64>", "i:4 i:1", impl.LowerPlace}, {"list<u64>", "i:8 i:1", 0}, {"list<u64>", "i:0 i:536870912", impl.LowerPlace}, {"list<u64>", "i:0 i:536870913", impl.LowerPlace},
		{"list<u8>", "i:0 i:99", 0}, {"list<u8>", "i:0 i:100", impl.LowerSize}, {"list<u8>", "i:0 i:256", impl.LowerSize}, {"list<u8>", "i:0 i:257", impl.LowerPlace},
		{"string", "i:256 i:0", 0}, {"string", "i:257 i:0", impl.LowerPlace}, {"string", "i:255 i:1", 0}, {"string", "i:255 i:2", impl.LowerPlace}, {"string", "i:0 i:200", 0}, {"string", "i:0 i:201", impl.LowerForm}, {"string", "i:-1 i:-1", impl.LowerPlace},
	} {
		x := typeTold(c.kind)
		if _, fault := checkLiftFlat(t, filledHeap(1, 0, 0).Memory, x, wordsOf(c.words), impl.CodeUtf8); fault != c.fault {
			t.Errorf("%+v: %d", c, fault)
		}
	}
}

// Promise 14: values of as many nodes as there may be, and of one more.
func TestValuesOfAllSizesFlat(t *testing.T) {
	for _, c := range []struct {
		kind  string
		words string
		each  int
		more  int
	}{{"list<u8>", "i:64", 1, 1}, {"list<record<u8,u8,u8>>", "i:64", 4, 1}, {"list<variant<u8>>", "i:64", 2, 1}, {"list<string>", "i:64", 1, 1}, {"option<list<u8>>", "i:1 i:64", 1, 2}, {"record<u8,list<u8>>", "i:1 i:64", 1, 3}, {"record<record<u8,u64>,list<record<u8>>>", "i:1 I:2 i:64", 2, 5}, {"variant<u8,result<u8,list<u8>>>", "i:1 i:1 i:64", 1, 3}} {
		x := typeTold(c.kind)
		for count := range 130 {
			row := append(wordsOf(c.words), impl.Word{Type: impl.TypeI32, Bits: uint64(count)})
			l, fault := checkLiftFlat(t, filledHeap(8, 0, 0).Memory, x, row, impl.CodeUtf8)
			nodes := c.more + c.each*count
			if good := nodes <= 100; good && (fault != impl.LowerOk || len(l) != nodes) || !good && fault != impl.LowerSize {
				t.Errorf("%s, %d parts: %d, %d; want %d nodes", c.kind, count, len(l), fault, nodes)
			}
		}
	}
	// A node too many behind a list, which is full.
	x := typeTold("record<list<u8>,option<u8>>")
	for count, want := range map[int]int{96: impl.LowerOk, 97: impl.LowerSize, 98: impl.LowerSize, 99: impl.LowerSize} {
		row := wordsOf(fmt.Sprintf("i:0 i:%d i:1 i:7", count))
		if _, fault := checkLiftFlat(t, filledHeap(1, 0, 0).Memory, x, row, impl.CodeUtf8); fault != want {
			t.Errorf("%d parts, and an option behind: %d", count, fault)
		}
	}
}

// Promise 14: which fault is told where there are several: the first that is met, each part ahead of those behind it.
func TestFirstFaultOfWords(t *testing.T) {
	for _, c := range []struct {
		what  string
		kind  string
		words string
		fault int
	}{
		{"a char ahead of a text's place", "record<char,string>", "i:-1 i:5000 i:1", impl.LowerForm},
		{"a text's place ahead of a char", "record<string,char>", "i:5000 i:1 i:-1", impl.LowerPlace},
		{"a list's place ahead of a char", "record<list<u8>,char>", "i:5000 i:1 i:-1", impl.LowerPlace},
		{"a char ahead of a list's place", "record<char,list<u8>>", "i:-1 i:5000 i:1", impl.LowerForm},
		{"a case's number ahead of its part", "variant<string>", "i:1 i:5000 i:1", impl.LowerForm},
		{"a part of a case that is there", "variant<string>", "i:0 i:5000 i:1", impl.LowerPlace},
		{"an option's number ahead of its part", "option<string>", "i:2 i:5000 i:1", impl.LowerForm},
		{"nothing of an option's part that is not there", "option<string>", "i:0 i:5000 i:1", impl.LowerOk},
		{"a text's place ahead of its form", "string", "i:1023 i:2", impl.LowerPlace},
		{"a text that is none", "string", "i:512 i:1", impl.LowerForm},
		{"all that a part has ahead of the next one", "record<list<char>,string>", "i:512 i:1 i:5000 i:1", impl.LowerForm},
		{"a list's parts ahead of a number", "record<list<char>,enum<2>>", "i:5000 i:1 i:2", impl.LowerPlace},
		{"the first of two lists", "record<list<list<u8>>,list<char>>", "i:1000 i:5000 i:512 i:1", impl.LowerPlace},
		{"a list's place ahead of its parts", "list<char>", "i:512 i:1000", impl.LowerPlace},
		{"a list's place ahead of too many nodes", "list<u64>", "i:0 i:200", impl.LowerPlace},
		{"too many nodes", "list<char>", "i:0 i:100", impl.LowerSize},
		{"the first char ahead of too many nodes", "list<char>", "i:508 i:110", impl.LowerForm},
		{"the last char that may be there ahead of too many nodes", "list<char>", "i:120 i:150", impl.LowerForm},
		{"too many nodes ahead of what the first of these is", "list<char>", "i:116 i:150", impl.LowerSize},
		{"too many nodes ahead of a text behind", "record<list<u8>,string>", "i:0 i:120 i:5000 i:1", impl.LowerSize},
		{"a text ahead of too many nodes", "record<string,list<u8>>", "i:5000 i:1 i:0 i:120", impl.LowerPlace},
		{"a number ahead of too many nodes", "record<enum<2>,list<u8>>", "i:2 i:0 i:120", impl.LowerForm},
		{"too many nodes ahead of a number", "record<list<u8>,enum<2>>", "i:0 i:120 i:2", impl.LowerSize},
		{"too many nodes ahead of a number that is the first of these", "record<list<u8>,enum<2>>", "i:0 i:98 i:2", impl.LowerSize},
		{"a number of just enough nodes", "record<list<u8>,enum<2>>", "i:0 i:97 i:300", impl.LowerForm},
	} {
		x := typeTold(c.kind)
		// Noughts, and behind half of it no char and no text.
		m := laid(filledHeap(4, 0, 0).Memory, 512, string(slices.Repeat([]byte{0xff}, 512)))
		if _, fault := checkLiftFlat(t, m, x, wordsOf(c.words), impl.CodeUtf8); fault != c.fault {
			t.Errorf("%s: %s is %d, want %d", c.what, c.kind, fault, c.fault)
		}
		// What is not as said comes ahead of all.
		for what, l := range map[string][]impl.Word{"one too few": wordsOf(c.words)[1:], "one too many": wordsOf(c.words + " i:0"), "another type at the end": wordsOf(c.words[:len(c.words)-3] + " I:0 I:0")} {
			if _, fault := checkLiftFlat(t, m, x, l, impl.CodeUtf8); fault != impl.LowerBad {
				t.Errorf("%s, %s: %d", c.kind, what, fault)
			}
		}
		for _, code := range []int{-1, 0, 4} {
			if _, fault := checkLiftFlat(t, m, x, wordsOf(c.words), code); fault != impl.LowerBad {
				t.Errorf("%s in code %d: %d", c.kind, code, fault)
			}
		}
		m.Max = 3
		if _, fault := checkLiftFlat(t, m, x, wordsOf(c.words), impl.CodeUtf8); fault != impl.LowerBad {
			t.Errorf("%s in a memory that is not good: %d", c.kind, fault)
		}
	}
}

// Promise 14: what is taken up of words that are nearly those of a value, in its code or another, of its memory or another.
func TestSpoiltWordsTakenUp(t *testing.T) {
	r := rand.New(rand.NewSource(149))
	var faults [6]int
	for range 40000 {
		x, code := anyFew(r, 20, 6), threeCodes[r.Intn(3)]
		h, words, fault := impl.LowerFlat(heapOf(8, r.Intn(60)), x.nodes(), anyValue(r, x, []int{10, 100}[r.Intn(2)]).nodes(), code)
		if fault != impl.LowerOk {
			continue
		}
		for range 1 + r.Intn(3) {
			words = spoiltWords(r, words)
		}
		if r.Intn(8) == 0 {
			code = threeCodes[r.Intn(3)]
		}
		if r.Intn(8) == 0 {
			h.Memory = anyMemory(r)
		}
		l, fault := checkLiftFlat(t, h.Memory, x, words, code)
		faults[fault]++
		if fault == impl.LowerOk {
			checkFlat(t, heapOf(8, r.Intn(9)), x, l, code)
		}
	}
	if slices.Min([]int{faults[impl.LowerOk], faults[impl.LowerBad], faults[impl.LowerPlace], faults[impl.LowerForm]}) < 1000 || faults[impl.LowerSize] < 10 {
		t.Error("too few of one code:", faults)
	}
}

// Promise 14: what is taken up of any words becomes words and comes back again.
func TestAnyWordsTakenUp(t *testing.T) {
	r := rand.New(rand.NewSource(150))
	var faults [6]int
	for range 40000 {
		x := anyFew(r, 10, 4)
		row := make([]uint64, len(wantFlat(x)))
		for i := range row {
			row[i] = []uint64{0, 1, 2, uint64(r.Intn(20)), uint64(r.Intn(128)), uint64(r.Intn(64) * 8), anyWord(r)}[r.Intn(7)]
			if wantFlat(x)[i] != 'I' {
				row[i] %= 1 << 32
			}
		}
		m, code := anyMemory(r), threeCodes[r.Intn(3)]
		if r.Intn(2) == 0 {
			m = filledHeap(1, 0, 0).Memory
		}
		l, fault := checkLiftFlat(t, m, x, wordsIn(x, row), code)
		faults[fault]++
		if fault == impl.LowerOk {
			checkFlat(t, heapOf(8, r.Intn(9)), x, l, code)
		}
	}
	if slices.Min([]int{faults[impl.LowerOk], faults[impl.LowerPlace], faults[impl.LowerForm]}) < 1000 || faults[impl.LowerSize] < 5 || faults[impl.LowerBad] != 0 {
		t.Error("too few of one code:", faults)
	}
}
