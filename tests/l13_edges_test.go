package tests

import (
	"math"
	"math/rand"
	"slices"
	"strings"
	"testing"

	"loop.example/g00209/impl"
)

// Promise 13: from each place on, with each align and with sizes around what is left.
func TestRoomAtItsEdges(t *testing.T) {
	for _, pages := range []int{0, 1, 2, 8} {
		for next := range 256*pages + 1 {
			left := 256*pages - next
			for _, align := range []int{0, 1, 2, 4, 8} {
				for _, size := range []int{-1, 0, 1, left - 8, left - 1, left, left + 1, math.MaxInt} {
					checkRoom(t, heapOf(pages, next), align, size)
				}
			}
		}
	}
	for _, align := range []int{math.MinInt, -8, -4, -2, -1, 0, 1, 2, 3, 4, 5, 6, 7, 8, 9, 12, 16, 32, 256, 1 << 62, math.MaxInt} {
		for _, size := range []int{math.MinInt, -1, 0, 1, 8, 256, math.MaxInt - 8, math.MaxInt} {
			for _, next := range []int{0, 1, 8, 255, 256} {
				h, at, code := checkRoom(t, heapOf(1, next), align, size)
				if good := align == 1 || align == 2 || align == 4 || align == 8; (!good || size < 0) && (code != impl.LowerBad || at != 0 || h != heapOf(1, next)) {
					t.Errorf("TakeRoom of align %d, size %d from %d on: %s, %d, %d", align, size, next, heapText(h), at, code)
				}
			}
		}
	}
	for _, h := range badHeaps() {
		for _, align := range []int{0, 1, 8} {
			for _, size := range []int{-1, 0, 1, math.MaxInt} {
				if got, at, code := checkRoom(t, h, align, size); got != (impl.Heap{}) || at != 0 || code != impl.LowerBad {
					t.Errorf("TakeRoom of %s: %s, %d, %d", heapText(h), heapText(got), at, code)
				}
			}
		}
	}
}

// Promise 13: texts of MaxValueText bytes and one more, of points of all lengths.
func TestTextsOfAllLengthsLaid(t *testing.T) {
	for _, point := range []string{"a", "\x00", "\u00e4", "\u0100", "\u20ac", "\U0001f600"} {
		for size := range 210 {
			// Filled up by points of one byte.
			s := strings.Repeat(point, size/len(point)) + text(size%len(point))
			for _, code := range threeCodes {
				fault := checkText(t, heapOf(8, 3), s, code)
				if (fault == impl.LowerOk) != (size <= impl.MaxValueText) {
					t.Errorf("%d bytes in code %d: %d", size, code, fault)
				}
				if size > impl.MaxValueText && fault != impl.LowerBad {
					t.Errorf("%d bytes in code %d: %d", size, code, fault)
				}
			}
		}
	}
}

// Promise 13: texts that are none, and codes that are none.
func TestTextsRefused(t *testing.T) {
	refused := func(h impl.Heap, s string, code int) {
		t.Helper()
		got, at, count, fault := impl.LowerText(h, s, code)
		if got != wantKept(h) || at != 0 || count != 0 || fault != impl.LowerBad {
			t.Errorf("LowerText(%s, %.50q, %d) = %s, %d, %d, %d", heapText(h), s, code, heapText(got), at, count, fault)
		}
		checkText(t, h, s, code)
	}
	for _, s := range []string{"\xff", "\x80", "\xc3", "a\xc3", "\xc0\x80", "\xed\xa0\x80", "\xed\xbf\xbf", "\xf4\x90\x80\x80", "\xe2\x82", "\xf0\x9f\x98", "\u00e4\xa4", text(199) + "\u00e4", text(201), text(1 << 20), strings.Repeat("\xff", 1<<20)} {
		for _, code := range threeCodes {
			refused(heapOf(4, 3), s, code)
			// Also where there would be no room.
			refused(heapOf(1, 256), s, code)
		}
	}
	for _, code := range []int{math.MinInt, -1, 0, 4, 5, 1 << 32, 1<<32 + 1, math.MaxInt} {
		for _, s := range []string{"", "a", "\xff", text(201)} {
			refused(heapOf(1, 3), s, code)
			refused(heapOf(1, 256), s, code)
		}
	}
	for _, h := range badHeaps() {
		for _, s := range []string{"", "a", "\xff"} {
			for _, code := range []int{0, 1, 2, 3, 4} {
				refused(h, s, code)
			}
		}
	}
}

// Promise 13: texts at the end of a memory, with just the room that they need and with less.
func TestTextsAtTheEnd(t *testing.T) {
	for _, s := range []string{"", "a", "ab", "abc", "\u00e4", "\u00e4a", "\u20ac", "\u20aca", "\U0001f600", text(200), strings.Repeat("\u00ff", 100), strings.Repeat("\u0100", 100)} {
		for _, code := range threeCodes {
			last := -1
			for next := range 257 {
				if checkText(t, heapOf(1, next), s, code) == impl.LowerOk {
					last = next
				}
			}
			b, _ := wantCoded(s, code)
			want := 256 - len(b)
			if code != impl.CodeUtf8 {
				want = want / 2 * 2
			}
			if want < 0 {
				want = -1
			}
			if last != want {
				t.Errorf("%.20q in code %d: the last Next is %d, want %d", s, code, last, want)
			}
		}
	}
}

// Promise 13: room that lacks for the value itself, for a text, for a list's parts, and deep inside: from each place on.
func TestValuesAtTheEnd(t *testing.T) {
	for kind, s := range map[string]string{
		"u8": "1", "u64": "1", "string": `"abc"`, "list<u8>": "[1,2,3]", "list<u64>": "[1,2]", "list<string>": `["a","","bc"]`, "list<list<u16>>": "[[1],[],[2,3]]", "record<u8,u64>": "(1,2)", "option<string>": `some:"abc"`, "variant<u8,list<u8>>": "1:[1,2]", "result<u64,u8>": "err:1",
		"record<string,list<record<string,u8>>,option<list<u64>>>": `("a",[("bc",1),("d",2)],some:[7])`,
		"list<variant<u8,list<list<string>>>>":                     `[0:1,1:[["abc"],[]],1:[]]`,
		"list<u32>":                                                "[]", "option<u64>": "none",
	} {
		x := typeTold(kind)
		l, ok := impl.ReadValue(x.nodes(), s)
		if !ok {
			t.Fatal("meant to be read:", kind, s)
		}
		for _, code := range threeCodes {
			var codes [6]int
			for next := range 257 {
				codes[checkLaid(t, heapOf(1, next), x, l, code)]++
			}
			used, _ := impl.UsedBy(x.nodes(), l, code)
			if codes[impl.LowerOk] < 257-used-8 || codes[impl.LowerRoom] < used-7 || codes[impl.LowerOk]+codes[impl.LowerRoom] != 257 {
				t.Errorf("%s, %s: %v, used %d", kind, s, codes, used)
			}
		}
	}
	for _, kind := range []string{"u8", "string", "list<u8>", "record<u8>"} {
		x := typeTold(kind)
		if checkLaid(t, impl.Heap{}, x, wantZero(x).nodes(), impl.CodeUtf8) != impl.LowerRoom {
			t.Errorf("%s has room in no memory", kind)
		}
	}
}

// refusedLaying: LowerBad, the heap as it was, or the zero heap; UsedBy tells nothing where it is not the heap's fault.
func refusedLaying(t *testing.T, h impl.Heap, types []impl.TypeNode, l []impl.Value, code int, used bool) {
	t.Helper()
	got, at, fault := impl.LowerValue(h, types, l, code)
	if got != wantKept(h) || at != 0 || fault != impl.LowerBad {
		t.Errorf("LowerValue(%s, %s, %s, %d) = %s, %d, %d", heapText(h), short(types), short(l), code, heapText(got), at, fault)
	}
	if n, ok := impl.UsedBy(types, l, code); ok != used || !ok && n != 0 {
		t.Errorf("UsedBy(%s, %s, %d) = %d, %t", short(types), short(l), code, n, ok)
	}
}

// Promise 13: values that may not be laid down: handles, values that do not fit, types that are none, codes that are none.
func TestValuesNotLaid(t *testing.T) {
	for kind, s := range map[string]string{
		"own<0>": "0", "borrow<9>": "100000", "list<own<1>>": "[1]", "record<u8,borrow<1>>": "(1,2)", "option<own<1>>": "some:1", "variant<u8,own<1>>": "1:1", "result<own<1>,u8>": "ok:1",
		// The value has no handle in it, but its type has.
		"list<borrow<1>>": "[]", "option<borrow<1>>": "none", "variant<u8,borrow<1>>": "0:1", "result<u8,own<1>>": "ok:1", "list<list<option<own<1>>>>": "[[none]]",
	} {
		types := typeTold(kind).nodes()
		l, ok := impl.ReadValue(types, s)
		if !ok {
			t.Fatal("meant to be read:", kind, s)
		}
		for _, code := range threeCodes {
			for _, h := range []impl.Heap{heapOf(1, 5), heapOf(1, 256), heapOf(1, -1)} {
				refusedLaying(t, h, types, l, code, false)
			}
			for at := range 257 {
				if back, fault := impl.LiftValue(heapOf(1, 0).Memory, types, at, code); len(back) > 0 || fault != impl.LowerBad {
					t.Fatalf("LiftValue of %s: %v, %d", kind, back, fault)
				}
			}
		}
	}
	u8 := tree("u8").nodes()
	for _, l := range [][]impl.Value{nil, {}, {{}}, {{N: 256, Up: -1}}, {{N: -1, Up: -1}}, {{N: 1, Text: "a", Up: -1}}, {{N: 1, Up: -1}, {N: 1, Up: 0}}, {{N: 1, Up: -1}, {N: 1, Up: -1}}, make([]impl.Value, 101)} {
		refusedLaying(t, heapOf(1, 5), u8, l, impl.CodeUtf8, false)
		refusedLaying(t, heapOf(1, 256), u8, l, impl.CodeUtf8, false)
	}
	one := number(1).nodes()
	for _, types := range [][]impl.TypeNode{nil, {}, {{}}, {{Kind: impl.KindU8}}, {{Kind: 22, Up: -1}}, {{Kind: impl.KindList, Up: -1}}, {{Kind: impl.KindU8, N: 1, Up: -1}}, append(slices.Clone(u8), u8...)} {
		refusedLaying(t, heapOf(1, 5), types, one, impl.CodeUtf8, false)
		if back, fault := impl.LiftValue(heapOf(1, 0).Memory, types, 0, impl.CodeUtf8); len(back) > 0 || fault != impl.LowerBad {
			t.Errorf("LiftValue of %v: %v, %d", types, back, fault)
		}
	}
	for _, code := range []int{math.MinInt, -1, 0, 4, 5, 1<<32 + 1, math.MaxInt} {
		// Also where there is no text.
		refusedLaying(t, heapOf(1, 5), u8, one, code, false)
		refusedLaying(t, heapOf(1, 256), u8, one, code, false)
		refusedLaying(t, heapOf(1, 5), tree("string").nodes(), written("a").nodes(), code, false)
	}
	for _, h := range badHeaps() {
		refusedLaying(t, h, u8, one, impl.CodeUtf8, true)
		refusedLaying(t, h, u8, nil, impl.CodeUtf8, false)
	}
	long := tree("list", tree("string"))
	refusedLaying(t, heapOf(8, 0), long.nodes(), gathered(written(text(201))).nodes(), impl.CodeUtf8, false)
	refusedLaying(t, heapOf(8, 0), long.nodes(), gathered(written("\xff")).nodes(), impl.CodeUtf8, false)
	refusedLaying(t, heapOf(8, 0), long.nodes(), often(written(""), 100).nodes(), impl.CodeUtf8, false)
	if checkLaid(t, heapOf(8, 0), long, often(written(""), 99).nodes(), impl.CodeUtf8) != impl.LowerOk {
		t.Error("MaxValueNodes nodes are laid down")
	}
}

// Promise 13: nodes that are nearly values, laid down where they are.
func TestValuesSpoiltLaid(t *testing.T) {
	r := rand.New(rand.NewSource(135))
	var codes [6]int
	for range 20000 {
		x := anyTree(r, 1+r.Intn(20), 1+r.Intn(6))
		if r.Intn(4) > 0 {
			x = handless(x)
		}
		l := anyValue(r, x, 20).nodes()
		if r.Intn(2) == 0 {
			l = spoiltValues(r, l)
		}
		h := anyHeap(r)
		if r.Intn(8) == 0 {
			h.Next = anyPlace(r)
		}
		codes[checkLaid(t, h, x, l, []int{1, 2, 3, 1, 2, 3, r.Intn(6) - 1}[r.Intn(7)])]++
	}
	if codes[impl.LowerOk] < 1000 || codes[impl.LowerBad] < 1000 || codes[impl.LowerRoom] < 1000 {
		t.Error("too few of one code:", codes)
	}
}
