package tests

import (
	"encoding/hex"
	"math/rand"
	"slices"
	"strings"
	"testing"

	"loop.example/g00209/impl"
)

// checkRoom holds TakeRoom against the test's own.
func checkRoom(t *testing.T, h impl.Heap, align int, size int) (impl.Heap, int, int) {
	t.Helper()
	got, at, code := impl.TakeRoom(h, align, size)
	if want, wantAt, wantCode := wantTaking(h, align, size); got != want || at != wantAt || code != wantCode {
		t.Fatalf("TakeRoom(%s, %d, %d) = %s, %d, %d; want %s, %d, %d", heapText(h), align, size, heapText(got), at, code, heapText(want), wantAt, wantCode)
	}
	return got, at, code
}

// checkLiftText holds LiftText against the test's own.
func checkLiftText(t *testing.T, m impl.Memory, at int, count int, code int) (string, int) {
	t.Helper()
	got, fault := impl.LiftText(m, at, count, code)
	if want, wantFault := wantLiftText(m, at, count, code); got != want || fault != wantFault {
		t.Fatalf("LiftText(%s, %d, %d, %d) = %q, %d; want %q, %d", short(m), at, count, code, got, fault, want, wantFault)
	}
	return got, fault
}

// checkOutside: all bytes stay as they were but for those that were taken.
func checkOutside(t *testing.T, was impl.Heap, is impl.Heap, at int) {
	t.Helper()
	if at < was.Next || is.Next < at || is.Memory.Max != was.Memory.Max || len(is.Memory.Data) != len(was.Memory.Data) || is.Memory.Data[:at] != was.Memory.Data[:at] || is.Memory.Data[is.Next:] != was.Memory.Data[is.Next:] {
		t.Fatalf("at %d: %s; was %s", at, heapText(is), heapText(was))
	}
}

// checkText: a text is laid down as the test lays it, and taken up as it was.
func checkText(t *testing.T, h impl.Heap, s string, code int) int {
	t.Helper()
	got, at, count, fault := impl.LowerText(h, s, code)
	if want, wantAt, wantCount, wantFault := wantLowerText(h, s, code); got != want || at != wantAt || count != wantCount || fault != wantFault {
		t.Fatalf("LowerText(%s, %.100q, %d) = %s, %d, %d, %d; want %s, %d, %d, %d", heapText(h), s, code, heapText(got), at, count, fault, heapText(want), wantAt, wantCount, wantFault)
	}
	if fault == impl.LowerOk {
		checkOutside(t, h, got, at)
		if back, fault := checkLiftText(t, got.Memory, at, count, code); back != s || fault != impl.LowerOk {
			t.Fatalf("%q in code %d comes back as %q, %d", s, code, back, fault)
		}
	}
	return fault
}

// checkLift holds LiftValue against the test's own; what is taken up fits.
func checkLift(t *testing.T, m impl.Memory, x typeTree, at int, code int) ([]impl.Value, int) {
	t.Helper()
	types := x.nodes()
	kept := slices.Clone(types)
	got, fault := impl.LiftValue(m, types, at, code)
	if want, wantFault := wantLift(m, x, at, code); !slices.Equal(got, want) || fault != wantFault {
		t.Fatalf("LiftValue(%s, %s, %d, %d) = %s, %d; want %s, %d", short(m), x.text(), at, code, short(got), fault, short(want), wantFault)
	}
	if impl.FitsType(types, got) != (fault == impl.LowerOk) || !slices.Equal(types, kept) {
		t.Fatalf("LiftValue(%s, %s, %d, %d) = %s, %d: types are %v", short(m), x.text(), at, code, short(got), fault, types)
	}
	return got, fault
}

// checkLaid: nodes are laid down as the test lays them, if they fit, and taken up as they were.
func checkLaid(t *testing.T, h impl.Heap, x typeTree, l []impl.Value, code int) int {
	t.Helper()
	types := x.nodes()
	kept, keptTypes := slices.Clone(l), slices.Clone(types)
	got, at, fault := impl.LowerValue(h, types, l, code)
	if want, wantAt, wantFault := wantLower(h, x, l, code); got != want || at != wantAt || fault != wantFault {
		t.Fatalf("LowerValue(%s, %s, %s, %d) = %s, %d, %d; want %s, %d, %d", heapText(h), x.text(), short(l), code, heapText(got), at, fault, heapText(want), wantAt, wantFault)
	}
	used, ok := impl.UsedBy(types, l, code)
	if want, is := wantUsed(x, l, code); used != want || ok != is {
		t.Fatalf("UsedBy(%s, %s, %d) = %d, %t; want %d, %t", x.text(), short(l), code, used, ok, want, is)
	}
	if fault == impl.LowerOk {
		checkOutside(t, h, got, at)
		if back, fault := checkLift(t, got.Memory, x, at, code); fault != impl.LowerOk || !slices.Equal(back, l) {
			t.Fatalf("%s: %s in code %d comes back as %s, %d", x.text(), short(l), code, short(back), fault)
		}
	}
	if !slices.Equal(l, kept) || !slices.Equal(types, keptTypes) {
		t.Fatalf("an argument has changed: %v, was %v; %v, was %v", l, kept, types, keptTypes)
	}
	return fault
}

// Promise 13: the constants, as the document has them.
func TestLowerConstants(t *testing.T) {
	if got := []int{impl.LowerOk, impl.LowerBad, impl.LowerRoom, impl.LowerPlace, impl.LowerForm, impl.LowerSize}; !slices.Equal(got, []int{0, 1, 2, 3, 4, 5}) {
		t.Error(got)
	}
}

// Promise 13: which heaps are good.
func TestGoodHeaps(t *testing.T) {
	for pages := range 9 {
		for _, next := range []int{-1 << 63, -256, -1, 0, 1, 255, 256, 257, 256*pages - 1, 256 * pages, 256*pages + 1, 2048, 2049, 1<<63 - 1} {
			h := heapOf(pages, next)
			if got, want := impl.GoodHeap(h), next >= 0 && next <= 256*pages; got != want {
				t.Errorf("GoodHeap of %d pages, Next %d: %t", pages, next, got)
			}
		}
	}
	if !impl.GoodHeap(impl.Heap{}) {
		t.Error("the zero heap is good")
	}
	for _, h := range badHeaps() {
		if impl.GoodHeap(h) {
			t.Errorf("%s is good", heapText(h))
		}
	}
}

// Promise 13: room is at the next multiple of its align, as far as there is some.
func TestRoomTaken(t *testing.T) {
	for _, c := range []struct {
		next, align, size int
		place, after      int
		code              int
	}{
		{0, 1, 0, 0, 0, 0}, {0, 8, 0, 0, 0, 0}, {0, 8, 256, 0, 256, 0}, {0, 1, 257, 0, 0, impl.LowerRoom},
		{1, 1, 1, 1, 2, 0}, {1, 2, 1, 2, 3, 0}, {1, 4, 1, 4, 5, 0}, {1, 8, 1, 8, 9, 0}, {1, 8, 0, 8, 8, 0},
		{8, 8, 3, 8, 11, 0}, {9, 8, 240, 16, 256, 0}, {9, 8, 241, 0, 9, impl.LowerRoom}, {249, 8, 0, 256, 256, 0}, {249, 8, 1, 0, 249, impl.LowerRoom},
		{255, 1, 1, 255, 256, 0}, {255, 2, 0, 256, 256, 0}, {255, 2, 1, 0, 255, impl.LowerRoom}, {256, 8, 0, 256, 256, 0}, {256, 1, 1, 0, 256, impl.LowerRoom},
	} {
		h := heapOf(1, c.next)
		got, at, code := checkRoom(t, h, c.align, c.size)
		if at != c.place || got.Next != c.after || code != c.code || got.Memory != h.Memory {
			t.Errorf("%+v: %s, %d, %d", c, heapText(got), at, code)
		}
	}
}

// Promise 13: texts as they lie, in each code.
func TestTextsWrittenOut(t *testing.T) {
	for _, c := range []struct {
		s            string
		code         int
		next         int
		place, count int
		hex          string
	}{
		{"", impl.CodeUtf8, 3, 3, 0, ""}, {"", impl.CodeUtf16, 3, 4, 0, ""}, {"", impl.CodeLatin, 3, 4, 0, ""},
		{"hi", impl.CodeUtf8, 3, 3, 2, "6869"}, {"hi", impl.CodeUtf16, 3, 4, 2, "68006900"}, {"hi", impl.CodeLatin, 3, 4, 2, "6869"},
		{"\u00e4", impl.CodeUtf8, 5, 5, 2, "c3a4"}, {"\u00e4", impl.CodeUtf16, 5, 6, 1, "e400"}, {"\u00e4", impl.CodeLatin, 5, 6, 1, "e4"},
		{"\u00ffa\u00ff", impl.CodeLatin, 0, 0, 3, "ff61ff"}, {"\u0100", impl.CodeLatin, 0, 0, 1<<31 + 1, "0001"},
		{"a\u20ac", impl.CodeUtf8, 1, 1, 4, "61e282ac"}, {"a\u20ac", impl.CodeUtf16, 1, 2, 2, "6100ac20"}, {"a\u20ac", impl.CodeLatin, 1, 2, 1<<31 + 2, "6100ac20"},
		{"\U0001f600", impl.CodeUtf8, 1, 1, 4, "f09f9880"}, {"\U0001f600", impl.CodeUtf16, 1, 2, 2, "3dd800de"}, {"\U0001f600", impl.CodeLatin, 1, 2, 1<<31 + 2, "3dd800de"},
	} {
		h, at, count, code := impl.LowerText(filledHeap(1, 0xee, c.next), c.s, c.code)
		if code != impl.LowerOk || at != c.place || count != c.count || hex.EncodeToString([]byte(h.Memory.Data[at:h.Next])) != c.hex {
			t.Errorf("%+v: %s, %d, %d, %d", c, heapText(h), at, count, code)
		}
		if s, code := impl.LiftText(h.Memory, c.place, c.count, c.code); s != c.s || code != impl.LowerOk {
			t.Errorf("%+v: comes back as %q, %d", c, s, code)
		}
		checkText(t, filledHeap(1, 0xee, c.next), c.s, c.code)
	}
}

// laidOut: a value and the bytes that are taken for it in a memory full of ee.
type laidOut struct {
	kind  string
	value string
	code  int
	next  int
	place int
	after int
	hex   string
}

func laidOuts() []laidOut {
	const u8, u16, compact = impl.CodeUtf8, impl.CodeUtf16, impl.CodeLatin
	return []laidOut{
		{"bool", "false", u8, 1, 1, 2, "00"}, {"bool", "true", u8, 1, 1, 2, "01"},
		{"u8", "255", u8, 1, 1, 2, "ff"}, {"s8", "-2", u8, 1, 1, 2, "fe"}, {"s8", "127", u8, 1, 1, 2, "7f"},
		{"u16", "4660", u8, 1, 2, 4, "3412"}, {"s16", "-2", u8, 1, 2, 4, "feff"},
		{"u32", "305419896", u8, 1, 4, 8, "78563412"}, {"s32", "-2", u8, 1, 4, 8, "feffffff"}, {"u32", "4294967295", u8, 5, 8, 12, "ffffffff"},
		{"u64", "18446744073709551614", u8, 1, 8, 16, "feffffffffffffff"}, {"s64", "-9223372036854775808", u8, 9, 16, 24, "0000000000000080"}, {"u64", "72623859790382856", u8, 0, 0, 8, "0807060504030201"},
		{"f32", "1065353216", u8, 1, 4, 8, "0000803f"}, {"f32", "2143289344", u8, 1, 4, 8, "0000c07f"}, {"char", "1114111", u8, 1, 4, 8, "ffff1000"},
		{"flags<8>", "129", u8, 1, 1, 2, "81"}, {"flags<9>", "257", u8, 1, 2, 4, "0101"}, {"flags<17>", "65537", u8, 1, 4, 8, "01000100"}, {"flags<32>", "2147483649", u8, 1, 4, 8, "01000080"},
		{"enum<256>", "255", u8, 1, 1, 2, "ff"}, {"enum<257>", "256", u8, 1, 2, 4, "0001"}, {"enum<300>", "299", u8, 1, 2, 4, "2b01"},
		{"string", `""`, u8, 1, 4, 12, "0c000000" + "00000000"}, {"string", `"hi"`, u8, 1, 4, 14, "0c000000" + "02000000" + "6869"},
		{"string", `"hi"`, u16, 1, 4, 16, "0c000000" + "02000000" + "68006900"}, {"string", `"hi"`, compact, 1, 4, 14, "0c000000" + "02000000" + "6869"},
		{"string", `"\e2\82\ac"`, compact, 1, 4, 14, "0c000000" + "01000080" + "ac20"}, {"string", `"\c3\a4"`, compact, 1, 4, 13, "0c000000" + "01000000" + "e4"},
		{"list<u8>", "[]", u8, 1, 4, 12, "0c000000" + "00000000"}, {"list<u64>", "[]", u8, 1, 4, 16, "10000000" + "00000000" + "eeeeeeee"},
		{"list<u16>", "[1,2,3]", u8, 1, 4, 18, "0c000000" + "03000000" + "010002000300"}, {"list<u64>", "[1]", u8, 1, 4, 24, "10000000" + "01000000" + "eeeeeeee" + "0100000000000000"},
		{"record<u8>", "(7)", u8, 1, 1, 2, "07"}, {"record<u8,u32>", "(1,2)", u8, 1, 4, 12, "01000000" + "02000000"}, {"record<u32,u8>", "(1,2)", u8, 1, 4, 12, "01000000" + "02000000"},
		{"record<u8,string>", `(7,"hi")`, u16, 1, 4, 20, "07000000" + "10000000" + "02000000" + "68006900"},
		{"option<u8>", "none", u8, 1, 1, 3, "0000"}, {"option<u8>", "some:9", u8, 1, 1, 3, "0109"}, {"option<u64>", "none", u8, 1, 8, 24, strings.Repeat("00", 16)}, {"option<u64>", "some:9", u8, 1, 8, 24, "0100000000000000" + "0900000000000000"},
		{"result<u8,u32>", "ok:9", u8, 1, 4, 12, "00000000" + "09000000"}, {"result<u8,u32>", "err:9", u8, 1, 4, 12, "01000000" + "09000000"},
		{"variant<u16,u8,u32>", "1:9", u8, 1, 4, 12, "01000000" + "09000000"}, {"variant<u8,string>", `1:"a"`, u8, 0, 0, 13, "01000000" + "0c000000" + "01000000" + "61"},
		// Each part with all its own, ahead of the next one; a list's parts all together ahead of what they have.
		{"list<string>", `["a","bc"]`, u8, 0, 0, 27, "08000000" + "02000000" + "18000000" + "01000000" + "19000000" + "02000000" + "61" + "6263"},
		{"list<string>", `["a","bc"]`, u16, 0, 0, 30, "08000000" + "02000000" + "18000000" + "01000000" + "1a000000" + "02000000" + "6100" + "62006300"},
		{"record<string,string>", `("a","b")`, u8, 0, 0, 18, "10000000" + "01000000" + "11000000" + "01000000" + "61" + "62"},
		{"record<string,u8,string>", `("a",5,"b")`, compact, 0, 0, 23, "14000000" + "01000000" + "05000000" + "16000000" + "01000000" + "61" + "ee" + "62"},
		{"list<list<u8>>", "[[1],[2,3]]", u8, 0, 0, 27, "08000000" + "02000000" + "18000000" + "01000000" + "19000000" + "02000000" + "01" + "0203"},
		{"record<list<string>,list<u8>>", `(["a"],[9])`, u8, 0, 0, 26, "10000000" + "01000000" + "19000000" + "01000000" + "18000000" + "01000000" + "61" + "09"},
		// Bytes 0 are laid in the room of the value itself; between the parts of a list there is what was there.
		{"list<record<u8,u16>>", "[(1,2),(3,4)]", u8, 0, 0, 16, "08000000" + "02000000" + "01ee0200" + "03ee0400"},
		{"list<option<u16>>", "[none,some:5]", u8, 0, 0, 16, "08000000" + "02000000" + "00eeeeee" + "01ee0500"},
	}
}

// Promise 13: values as they lie, byte by byte.
func TestValuesWrittenOut(t *testing.T) {
	for _, c := range laidOuts() {
		x := typeTold(c.kind)
		l, ok := impl.ReadValue(x.nodes(), c.value)
		if !ok {
			t.Fatal("meant to be read:", c.kind, c.value)
		}
		was := filledHeap(1, 0xee, c.next)
		h, at, code := impl.LowerValue(was, x.nodes(), l, c.code)
		if code != impl.LowerOk || at != c.place || h.Next != c.after || hex.EncodeToString([]byte(h.Memory.Data[at:h.Next])) != c.hex {
			t.Errorf("%+v: %x, %d, %d, %d", c, h.Memory.Data[at:h.Next], at, h.Next, code)
		}
		back, code := impl.LiftValue(h.Memory, x.nodes(), c.place, c.code)
		if s, _ := impl.ValueText(x.nodes(), back); s != c.value || code != impl.LowerOk {
			t.Errorf("%+v: comes back as %s, %d", c, s, code)
		}
		checkLaid(t, was, x, l, c.code)
		checkLaid(t, filledHeap(1, 0, c.next), x, l, c.code)
	}
}

// Promise 13: values of every kind at their edges, in each code.
func TestValuesOfEachKindLaid(t *testing.T) {
	for _, x := range append(plainTypes(), counted("flags", 16), counted("flags", 17), counted("enum", 256)) {
		x = handless(x)
		for _, code := range threeCodes {
			for _, n := range valueEdges {
				if wantNumber(x, n) {
					checkLaid(t, heapOf(1, 5), x, number(n).nodes(), code)
					checkLaid(t, heapOf(1, 2), tree("list", x), gathered(number(n), number(n)).nodes(), code)
				}
			}
			for _, s := range someStrings() {
				checkLaid(t, heapOf(8, 5), tree("string"), written(s).nodes(), code)
			}
		}
	}
}

// Promise 13: values of each type within lists, options, records, variants and results, each in each.
func TestValuesWithinValuesLaid(t *testing.T) {
	r := rand.New(rand.NewSource(131))
	var plain []typeTree
	for _, x := range plainTypes() {
		plain = append(plain, handless(x))
	}
	laid := 0
	for i, x := range plain {
		for k, y := range plain {
			for n, outer := range []typeTree{tree("list", x), tree("option", x), tree("record", x, y), tree("variant", x, y), tree("result", x, y)} {
				code := threeCodes[(i+k+n)%3]
				checkLaid(t, heapOf(4, r.Intn(20)), outer, anyValue(r, outer, 12).nodes(), code)
				for _, outermost := range []typeTree{tree("list", outer), tree("option", outer), tree("record", outer, x, outer), tree("variant", y, outer), tree("result", outer, outer)} {
					if checkLaid(t, heapOf(8, r.Intn(20)), outermost, anyValue(r, outermost, 12).nodes(), code) == impl.LowerOk {
						laid++
					}
				}
			}
		}
	}
	if want := len(plain) * len(plain) * 20; laid < want {
		t.Errorf("%d were laid down, want %d", laid, want)
	}
}

// Promise 13: any values of any types in any heaps.
func TestAnyValuesLaid(t *testing.T) {
	r := rand.New(rand.NewSource(132))
	var codes [6]int
	largest, most := 0, 0
	for range 20000 {
		x := handless(anyTree(r, 1+r.Intn(40), 1+r.Intn(8)))
		l := anyValue(r, x, []int{5, 20, 100}[r.Intn(3)]).nodes()
		code := threeCodes[r.Intn(3)]
		fault := checkLaid(t, anyHeap(r), x, l, code)
		if fault == impl.LowerOk {
			largest = max(largest, len(l))
		}
		codes[fault]++
		used, _ := impl.UsedBy(x.nodes(), l, code)
		most = max(most, used)
		checkLaid(t, heapOf(8, 0), x, l, code)
	}
	if codes[impl.LowerOk] < 3000 || codes[impl.LowerRoom] < 1000 || largest != impl.MaxValueNodes || most < 10000 {
		t.Error("not far enough:", codes, largest, most)
	}
}

// Promise 13: what is laid down stays, whatever is laid down behind it.
func TestManyValuesLaid(t *testing.T) {
	r := rand.New(rand.NewSource(133))
	for range 500 {
		h, code := heapOf(8, 0), threeCodes[r.Intn(3)]
		var types []typeTree
		var values [][]impl.Value
		var places []int
		for range 30 {
			x := handless(anyTree(r, 1+r.Intn(8), 4))
			l := anyValue(r, x, 8).nodes()
			next, at, fault := impl.LowerValue(h, x.nodes(), l, code)
			if fault == impl.LowerOk {
				types, values, places = append(types, x), append(values, l), append(places, at)
			}
			h = next
		}
		for i, x := range types {
			if back, fault := impl.LiftValue(h.Memory, x.nodes(), places[i], code); fault != impl.LowerOk || !slices.Equal(back, values[i]) {
				t.Fatalf("%s at %d: %v comes back as %v, %d", x.text(), places[i], values[i], back, fault)
			}
		}
		if len(types) < 3 {
			t.Error("too few were laid down:", len(types))
		}
	}
}

// Promise 13: UsedBy tells what a heap with Next 0 has taken.
func TestUsedRoom(t *testing.T) {
	for kind, c := range map[string]struct {
		value string
		used  [3]int
	}{
		"u8": {"1", [3]int{1, 1, 1}}, "u64": {"1", [3]int{8, 8, 8}}, "string": {`"hi"`, [3]int{10, 12, 10}}, "record<u8,string>": {`(7,"hi")`, [3]int{14, 16, 14}}, "list<u8>": {"[]", [3]int{8, 8, 8}}, "list<u64>": {"[1,2]", [3]int{24, 24, 24}},
		"record<string,list<u64>>": {`("a",[])`, [3]int{24, 24, 24}}, "record<string,string>": {`("a","\e2\82\ac")`, [3]int{20, 20, 20}}, "option<string>": {"none", [3]int{12, 12, 12}}, "record<list<u16>,option<u8>>": {"([1],some:1)", [3]int{14, 14, 14}},
	} {
		x := typeTold(kind)
		l, _ := impl.ReadValue(x.nodes(), c.value)
		for i, code := range threeCodes {
			if got, ok := impl.UsedBy(x.nodes(), l, code); got != c.used[i] || !ok {
				t.Errorf("UsedBy(%s, %s, %d) = %d, %t; want %d", kind, c.value, code, got, ok, c.used[i])
			}
		}
	}
	// More than any memory has.
	long := tree("list", tree("string"))
	l := often(written(text(200)), 99).nodes()
	for i, want := range []int{8 + 99*208, 8 + 99*408, 8 + 99*208} {
		if got, ok := impl.UsedBy(long.nodes(), l, threeCodes[i]); got != want || !ok {
			t.Errorf("UsedBy of 99 texts: %d, %t; want %d", got, ok, want)
		}
		if checkLaid(t, heapOf(8, 0), long, l, threeCodes[i]) != impl.LowerRoom {
			t.Error("99 texts have room")
		}
	}
}

// Promise 13: with just the room that UsedBy tells a value is laid down, with less it is not.
func TestUsedRoomIsEnough(t *testing.T) {
	r := rand.New(rand.NewSource(134))
	laid := 0
	for range 10000 {
		x := handless(anyTree(r, 1+r.Intn(20), 1+r.Intn(6)))
		l, code := anyValue(r, x, 20).nodes(), threeCodes[r.Intn(3)]
		used, ok := impl.UsedBy(x.nodes(), l, code)
		if !ok {
			t.Fatal("meant to fit:", x.text(), l)
		}
		// From a multiple of 8 on all aligns are met as they are from 0 on.
		next := (2048 - used) / 8 * 8
		if used > 2048 {
			continue
		}
		laid++
		h, at, fault := impl.LowerValue(heapOf(8, next), x.nodes(), l, code)
		if fault != impl.LowerOk || at != next || h.Next != next+used {
			t.Fatalf("%s from %d on, of %d: %d, %d, %d", x.text(), next, used, at, h.Next, fault)
		}
		if next < 2048 && checkLaid(t, heapOf(8, next+8), x, l, code) != impl.LowerRoom {
			t.Fatalf("%s from %d on, of %d, is laid down", x.text(), next+8, used)
		}
	}
	if laid < 5000 {
		t.Error("too few were laid down:", laid)
	}
}
