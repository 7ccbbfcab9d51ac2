package tests

import (
	"math"
	"math/rand"
	"slices"
	"testing"

	"loop.example/g00209/impl"
)

// ofWords: records of just so many words, of several types.
func ofWords(many int) typeTree {
	x := tree("record")
	for rest := many; rest > 0; {
		inner := tree("record")
		for len(inner.parts) < 7 && rest > 0 {
			inner.parts, rest = append(inner.parts, tree([]string{"u8", "f32", "u64"}[rest%3])), rest-1
		}
		x.parts = append(x.parts, inner)
	}
	return x
}

// ofWordsOver: the same with texts, so that there are more words than nodes.
func ofWordsOver(many int) typeTree {
	x := tree("record")
	for rest := many; rest > 0; {
		inner := tree("record")
		for len(inner.parts) < 8 && rest > 1 {
			inner.parts, rest = append(inner.parts, tree("string")), rest-2
		}
		if rest == 1 && len(inner.parts) < 8 {
			inner.parts, rest = append(inner.parts, tree("f32")), 0
		}
		x.parts = append(x.parts, inner)
	}
	return x
}

// Promise 14: types of just MaxFlat words and one more, and of so many that FlatOf tells none.
func TestFlatFitsAtEdges(t *testing.T) {
	var types []typeTree
	for many := 1; many <= 34; many++ {
		types = append(types, ofWords(many))
	}
	for many := 1; many <= 60; many++ {
		types = append(types, ofWordsOver(many))
	}
	met := map[int]bool{}
	for _, x := range types {
		for _, outer := range []typeTree{x, tree("variant", tree("u8"), x), tree("option", x), tree("list", x), tree("result", x, tree("u64")), tree("record", x, tree("list", x))} {
			if !wantTree(outer) {
				continue
			}
			many := len(wantFlat(outer))
			met[many] = true
			if fits, ok := impl.FlatFits(outer.nodes()); fits != (many <= 16) || !ok {
				t.Errorf("FlatFits of %d words: %t, %t", many, fits, ok)
			}
			fault := checkFlat(t, heapOf(8, 3), outer, wantZero(outer).nodes(), impl.CodeUtf8)
			if (fault == impl.LowerOk) != (many <= 16) || many > 16 && fault != impl.LowerBad {
				t.Errorf("%s, of %d words: %d", outer.text(), many, fault)
			}
			row := wordsIn(outer, make([]uint64, many))
			if _, fault := checkLiftFlat(t, filledHeap(1, 0, 0).Memory, outer, row, impl.CodeUtf8); (fault == impl.LowerOk) != (many <= 16) || many > 16 && fault != impl.LowerBad {
				t.Errorf("%s, of %d words: %d is taken up", outer.text(), many, fault)
			}
			if _, few := impl.FlatOf(outer.nodes()); few != (many <= 40) {
				t.Errorf("meant to be otherwise: FlatOf of %d words: %t", many, few)
			}
		}
	}
	for _, many := range []int{1, 15, 16, 17, 39, 40, 41, 50} {
		if !met[many] {
			t.Error("no type of so many words:", many)
		}
	}
	// What is in a list has no words, handles have one.
	for s, want := range map[string]bool{"list<record<record<u8,u8,u8,u8,u8,u8,u8,u8>,record<u8,u8,u8,u8,u8,u8,u8,u8>,u8>>": true, "record<string,string,string,string,string,string,string,string>": true, "option<record<string,string,string,string,string,string,string,string>>": false, "own<1>": true, "record<own<1>,borrow<2>>": true} {
		if fits, ok := impl.FlatFits(typeTold(s).nodes()); fits != want || !ok {
			t.Errorf("FlatFits of %s: %t, %t", s, fits, ok)
		}
	}
	for _, l := range noTypes() {
		if fits, ok := impl.FlatFits(l); fits || ok {
			t.Errorf("FlatFits(%v) = %t, %t", l, fits, ok)
		}
	}
}

// noTypes: nodes that are no good type.
func noTypes() [][]impl.TypeNode {
	u8 := tree("u8").nodes()
	return [][]impl.TypeNode{nil, {}, {{}}, {{Kind: impl.KindU8}}, {{Kind: 22, Up: -1}}, {{Kind: -1, Up: -1}}, {{Kind: impl.KindList, Up: -1}}, {{Kind: impl.KindU8, N: 1, Up: -1}}, append(slices.Clone(u8), u8...), within("option", 8, tree("u8")).nodes(), ofWords(36).nodes(), make([]impl.TypeNode, 41)}
}

// Promise 14: wanted types that are none, and words that are not good.
func TestWordsRefused(t *testing.T) {
	none := []int{math.MinInt, -1, 0, 1, 32, 64, impl.TypeNone, 124, 128, 125 + 256, 1<<32 + 127, math.MaxInt}
	three := []int{impl.TypeI32, impl.TypeI64, impl.TypeF32}
	refused := func(w impl.Word, want int) {
		t.Helper()
		if got, ok := impl.WordAs(w, want); got != (impl.Word{}) || ok {
			t.Errorf("WordAs(%v, %d) = %v, %t", w, want, got, ok)
		}
		if got, ok := impl.WordFrom(w, want); got != (impl.Word{}) || ok {
			t.Errorf("WordFrom(%v, %d) = %v, %t", w, want, got, ok)
		}
		checkWord(t, w, want)
	}
	for _, kind := range slices.Concat(none, three) {
		for _, want := range none {
			for _, b := range edgeWords() {
				refused(impl.Word{Type: kind, Bits: b}, want)
				refused(impl.Word{Type: want, Bits: b}, kind)
			}
		}
	}
	for _, kind := range []int{impl.TypeI32, impl.TypeF32} {
		for _, want := range three {
			for _, b := range []uint64{1 << 32, 1<<32 + 1, 1<<33 - 1, 1 << 63, math.MaxUint64, 0xdeadbeef00000000} {
				refused(impl.Word{Type: kind, Bits: b}, want)
			}
		}
	}
	r := rand.New(rand.NewSource(147))
	for range 20000 {
		l := slices.Concat(none, three, three, three, three)
		checkWord(t, impl.Word{Type: l[r.Intn(len(l))], Bits: anyWord(r)}, l[r.Intn(len(l))])
	}
}

// refusedFlat: LowerBad, no words, the heap as it was, or the zero heap.
func refusedFlat(t *testing.T, h impl.Heap, types []impl.TypeNode, l []impl.Value, code int) {
	t.Helper()
	got, words, fault := impl.LowerFlat(h, types, l, code)
	if got != wantKept(h) || len(words) > 0 || fault != impl.LowerBad {
		t.Errorf("LowerFlat(%s, %s, %s, %d) = %s, %s, %d", heapText(h), short(types), short(l), code, heapText(got), wordsText(words), fault)
	}
}

// Promise 14: values that become no words: handles, values that do not fit, types that are none or have too many words,
// codes that are none, heaps that are not good.
func TestValuesNotFlat(t *testing.T) {
	for kind, s := range map[string]string{
		"own<0>": "0", "borrow<9>": "100000", "list<own<1>>": "[1]", "record<u8,borrow<1>>": "(1,2)", "option<own<1>>": "some:1", "variant<u8,own<1>>": "1:1", "result<own<1>,u8>": "ok:1",
		// The value has no handle in it, but its type has.
		"list<borrow<1>>": "[]", "option<borrow<1>>": "none", "variant<u8,borrow<1>>": "0:1", "result<u8,own<1>>": "ok:1", "list<list<option<own<1>>>>": "[[none]]",
	} {
		x := typeTold(kind)
		l, ok := impl.ReadValue(x.nodes(), s)
		if !ok {
			t.Fatal("meant to be read:", kind, s)
		}
		row := wordsIn(x, make([]uint64, len(wantFlat(x))))
		for _, code := range threeCodes {
			for _, h := range []impl.Heap{heapOf(1, 5), heapOf(1, 256), heapOf(1, -1)} {
				refusedFlat(t, h, x.nodes(), l, code)
			}
			if back, fault := impl.LiftFlat(heapOf(1, 0).Memory, x.nodes(), row, code); len(back) > 0 || fault != impl.LowerBad {
				t.Errorf("LiftFlat of %s: %v, %d", kind, back, fault)
			}
		}
	}
	u8, one := tree("u8").nodes(), number(1).nodes()
	for _, l := range [][]impl.Value{nil, {}, {{}}, {{N: 256, Up: -1}}, {{N: -1, Up: -1}}, {{N: 1, Text: "a", Up: -1}}, {{N: 1, Up: -1}, {N: 1, Up: 0}}, {{N: 1, Up: -1}, {N: 1, Up: -1}}, make([]impl.Value, 101)} {
		refusedFlat(t, heapOf(1, 5), u8, l, impl.CodeUtf8)
		refusedFlat(t, heapOf(1, 256), u8, l, impl.CodeUtf8)
	}
	for _, types := range noTypes() {
		refusedFlat(t, heapOf(1, 5), types, one, impl.CodeUtf8)
		for _, row := range [][]impl.Word{nil, {}, wordsOf("i:0"), wordsOf("i:0 i:0")} {
			if back, fault := impl.LiftFlat(heapOf(1, 0).Memory, types, row, impl.CodeUtf8); len(back) > 0 || fault != impl.LowerBad {
				t.Errorf("LiftFlat of %v: %v, %d", types, back, fault)
			}
		}
	}
	for _, many := range []int{17, 32} {
		// Also where there would be no room.
		for _, next := range []int{0, 256} {
			refusedFlat(t, heapOf(1, next), ofWordsOver(many).nodes(), wantZero(ofWordsOver(many)).nodes(), impl.CodeUtf8)
		}
	}
	for _, code := range []int{math.MinInt, -1, 0, 4, 5, 1<<32 + 1, math.MaxInt} {
		// Also where there is no text.
		refusedFlat(t, heapOf(1, 5), u8, one, code)
		refusedFlat(t, heapOf(1, 256), tree("string").nodes(), written("a").nodes(), code)
		if back, fault := impl.LiftFlat(heapOf(1, 0).Memory, u8, wordsOf("i:1"), code); len(back) > 0 || fault != impl.LowerBad {
			t.Errorf("LiftFlat in code %d: %v, %d", code, back, fault)
		}
	}
	for _, h := range badHeaps() {
		// Also where nothing would be laid.
		refusedFlat(t, h, u8, one, impl.CodeUtf8)
		refusedFlat(t, h, u8, nil, impl.CodeUtf8)
	}
	for _, m := range badMemories() {
		if back, fault := impl.LiftFlat(m, u8, wordsOf("i:1"), impl.CodeUtf8); len(back) > 0 || fault != impl.LowerBad {
			t.Errorf("LiftFlat of Max %d, %d bytes: %v, %d", m.Max, len(m.Data), back, fault)
		}
	}
	texts := tree("list", tree("string"))
	refusedFlat(t, heapOf(8, 0), texts.nodes(), gathered(written(text(201))).nodes(), impl.CodeUtf8)
	refusedFlat(t, heapOf(8, 0), texts.nodes(), gathered(written("\xff")).nodes(), impl.CodeUtf8)
	refusedFlat(t, heapOf(8, 0), texts.nodes(), often(written(""), 100).nodes(), impl.CodeUtf8)
	if checkFlat(t, heapOf(8, 0), texts, often(written(""), 99).nodes(), impl.CodeUtf8) != impl.LowerOk {
		t.Error("MaxValueNodes nodes become words")
	}
}

// Promise 14: room that lacks for a text, for a list's parts and deep inside: from each place on. Words alone need none.
func TestFlatAtTheEnd(t *testing.T) {
	for kind, s := range map[string]string{
		"string": `"abc"`, "list<u8>": "[1,2,3]", "list<u64>": "[1,2]", "list<string>": `["a","","bc"]`, "list<list<u16>>": "[[1],[],[2,3]]", "option<string>": `some:"abc"`, "variant<u64,list<u8>>": "1:[1,2]", "result<u64,string>": `err:"ab"`,
		"record<string,list<record<string,u8>>,option<list<u64>>>": `("a",[("bc",1),("d",2)],some:[7])`,
		"list<variant<u8,list<list<string>>>>":                     `[0:1,1:[["abc"],[]],1:[]]`,
		"record<u8,string,f32,string>":                             `(1,"abc",2,"d")`,
	} {
		x := typeTold(kind)
		l, ok := impl.ReadValue(x.nodes(), s)
		if !ok {
			t.Fatal("meant to be read:", kind, s)
		}
		for _, code := range threeCodes {
			last, lacks := -1, 0
			for next := range 257 {
				h := heapOf(1, next)
				switch fault := checkFlat(t, h, x, l, code); fault {
				case impl.LowerOk:
					last = next
				case impl.LowerRoom:
					lacks++
					if got, words, _ := impl.LowerFlat(h, x.nodes(), l, code); got != h || len(words) > 0 {
						t.Errorf("%s from %d on: %s, %s", kind, next, heapText(got), wordsText(words))
					}
				default:
					t.Errorf("%s from %d on: %d", kind, next, fault)
				}
			}
			if last < 128 || lacks < 2 || last+lacks != 256 {
				t.Errorf("%s, %s: laid up to %d, not laid %d times", kind, s, last, lacks)
			}
		}
	}
	for kind, s := range map[string]string{"u8": "1", "u64": "1", "record<u8,u64>": "(1,2)", "option<string>": "none", "variant<u8,string>": "0:1", "list<u8>": "[]", "string": `""`, "list<u64>": "[]", "result<f32,u8>": "ok:1"} {
		x := typeTold(kind)
		l, _ := impl.ReadValue(x.nodes(), s)
		for _, h := range []impl.Heap{{}, heapOf(1, 256), heapOf(1, 251), heapOf(8, 2048)} {
			for _, code := range threeCodes {
				if checkFlat(t, h, x, l, code) != impl.LowerOk {
					t.Errorf("%s, %s in %s: no room", kind, s, heapText(h))
				}
			}
		}
	}
}

// Promise 14: nodes that are nearly values, as words where they are.
func TestValuesSpoiltFlat(t *testing.T) {
	r := rand.New(rand.NewSource(148))
	var codes [6]int
	for range 20000 {
		x := anyFew(r, 20, 6)
		if r.Intn(4) == 0 {
			x = anyTree(r, 1+r.Intn(20), 1+r.Intn(6))
		}
		l := anyValue(r, x, 20).nodes()
		if r.Intn(2) == 0 {
			l = spoiltValues(r, l)
		}
		h := anyHeap(r)
		if r.Intn(8) == 0 {
			h.Next = anyPlace(r)
		}
		codes[checkFlat(t, h, x, l, []int{1, 2, 3, 1, 2, 3, r.Intn(6) - 1}[r.Intn(7)])]++
	}
	if codes[impl.LowerOk] < 5000 || codes[impl.LowerBad] < 5000 || codes[impl.LowerRoom] < 200 {
		t.Error("too few of one code:", codes)
	}
}
