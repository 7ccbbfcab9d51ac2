package tests

import (
	"encoding/hex"
	"math/rand"
	"slices"
	"testing"

	"loop.example/g00209/impl"
)

// checkWord holds WordAs and WordFrom against the test's own, and against each other.
func checkWord(t *testing.T, w impl.Word, want int) {
	t.Helper()
	as, ok := impl.WordAs(w, want)
	if wantAs, is := wantWordAs(w, want); as != wantAs || ok != is {
		t.Fatalf("WordAs(%v, %d) = %v, %t; want %v, %t", w, want, as, ok, wantAs, is)
	}
	if ok {
		if back, ok := impl.WordFrom(as, w.Type); back != w || !ok || !impl.GoodWord(as) {
			t.Fatalf("%v in a place of type %d is %v, and comes back as %v, %t", w, want, as, back, ok)
		}
	}
	from, ok := impl.WordFrom(w, want)
	if wantFrom, is := wantWordFrom(w, want); from != wantFrom || ok != is {
		t.Fatalf("WordFrom(%v, %d) = %v, %t; want %v, %t", w, want, from, ok, wantFrom, is)
	}
	if put, ok := impl.WordAs(from, w.Type); ok != impl.GoodWord(from) || ok && put.Bits != from.Bits {
		t.Fatalf("%v of %v comes back as %v, %t", from, w, put, ok)
	}
}

// checkLiftFlat holds LiftFlat against the test's own; what is taken up fits.
func checkLiftFlat(t *testing.T, m impl.Memory, x typeTree, l []impl.Word, code int) ([]impl.Value, int) {
	t.Helper()
	types, kept := x.nodes(), slices.Clone(l)
	got, fault := impl.LiftFlat(m, types, l, code)
	if want, wantFault := wantLiftFlat(m, x, l, code); !slices.Equal(got, want) || fault != wantFault {
		t.Fatalf("LiftFlat(%s, %s, %s, %d) = %s, %d; want %s, %d", short(m), x.text(), wordsText(l), code, short(got), fault, short(want), wantFault)
	}
	if impl.FitsType(types, got) != (fault == impl.LowerOk) || !slices.Equal(types, x.nodes()) || !slices.Equal(l, kept) {
		t.Fatalf("LiftFlat(%s, %s, %s, %d) = %s, %d: arguments are %v, %v", short(m), x.text(), wordsText(kept), code, short(got), fault, types, l)
	}
	return got, fault
}

// checkFlatFits holds FlatFits against the test's own.
func checkFlatFits(t *testing.T, x typeTree) bool {
	t.Helper()
	fits, ok := impl.FlatFits(x.nodes())
	if good := wantTree(x); ok != good || fits != (good && wantFew(x)) {
		t.Fatalf("FlatFits(%s) = %t, %t", x.text(), fits, ok)
	}
	return fits
}

// checkFlat: nodes become the words that the test makes of them, if they fit, and come back as they were.
func checkFlat(t *testing.T, h impl.Heap, x typeTree, l []impl.Value, code int) int {
	t.Helper()
	types, kept := x.nodes(), slices.Clone(l)
	checkFlatFits(t, x)
	got, words, fault := impl.LowerFlat(h, types, l, code)
	if want, wantWords, wantFault := wantLowerFlat(h, x, l, code); got != want || !slices.Equal(words, wantWords) || fault != wantFault {
		t.Fatalf("LowerFlat(%s, %s, %s, %d) = %s, %s, %d; want %s, %s, %d", heapText(h), x.text(), short(l), code, heapText(got), wordsText(words), fault, heapText(want), wordsText(wantWords), wantFault)
	}
	if !slices.Equal(l, kept) || !slices.Equal(types, x.nodes()) {
		t.Fatalf("an argument has changed: %v, was %v; %v", l, kept, types)
	}
	if fault != impl.LowerOk {
		return fault
	}
	checkOutside(t, h, got, h.Next)
	flat, _ := impl.FlatOf(types)
	if !slices.EqualFunc(words, flat, func(w impl.Word, t int) bool { return w.Type == t && impl.GoodWord(w) }) {
		t.Fatalf("%s: %s, want types %s", x.text(), wordsText(words), lettersOfTypes(flat))
	}
	if back, fault := checkLiftFlat(t, got.Memory, x, words, code); fault != impl.LowerOk || !slices.Equal(back, l) {
		t.Fatalf("%s: %s in code %d comes back as %s, %d", x.text(), short(l), code, short(back), fault)
	}
	return fault
}

// Promise 14: the constant, as the document has it.
func TestFlatConstant(t *testing.T) {
	if impl.MaxFlat != 16 {
		t.Error(impl.MaxFlat)
	}
}

// Promise 14: words of each type in places of each type, and back.
func TestWordsInPlaces(t *testing.T) {
	types := []int{impl.TypeI32, impl.TypeI64, impl.TypeF32}
	for _, have := range types {
		for _, want := range types {
			as, from := 0, 0
			for _, b := range edgeWords() {
				w := impl.Word{Type: have, Bits: b}
				checkWord(t, w, want)
				if _, ok := impl.WordAs(w, want); ok {
					as++
				}
				if _, ok := impl.WordFrom(w, want); ok {
					from++
				}
			}
			pair, back := letterOfType(have)+letterOfType(want), letterOfType(want)+letterOfType(have)
			if (as > 10) != slices.Contains(mayGo, pair) || (from > 10) != slices.Contains(mayGo, back) || as > 0 && as < 10 || from > 0 && from < 10 {
				t.Errorf("of %s: %d in places, %d from places", pair, as, from)
			}
		}
	}
}

// Promise 14: words in places, one by one.
func TestWordsInPlacesWrittenOut(t *testing.T) {
	for _, c := range []struct{ word, as, place string }{
		{"i:5", "i", "i:5"}, {"i:-1", "i", "i:4294967295"}, {"I:-1", "I", "I:-1"}, {"f:1065353216", "f", "f:1065353216"},
		{"i:5", "I", "I:5"}, {"i:-1", "I", "I:4294967295"}, {"f:1065353216", "I", "I:1065353216"}, {"f:4290772992", "I", "I:4290772992"}, {"f:4290772992", "i", "i:4290772992"}, {"f:2143289345", "f", "f:2143289345"},
		{"i:0", "I", "I:0"}, {"f:0", "i", "i:0"},
		{"i:5", "f", ""}, {"I:5", "i", ""}, {"I:5", "f", ""}, {"i:0", "f", ""}, {"I:0", "i", ""},
	} {
		w := wordOrNone(c.word)
		if got, ok := impl.WordAs(w, typeOfLetter(c.as)); got != wordOrNone(c.place) || ok != (c.place != "") {
			t.Errorf("WordAs(%s, %s) = %v, %t; want %s", c.word, c.as, got, ok, c.place)
		}
		if c.place == "" {
			continue
		}
		if got, ok := impl.WordFrom(wordOrNone(c.place), w.Type); got != w || !ok {
			t.Errorf("WordFrom(%s, %s) = %v, %t; want %s", c.place, letterOfType(w.Type), got, ok, c.word)
		}
	}
	for _, c := range []struct{ place, want, word string }{
		{"I:-1", "i", "i:4294967295"}, {"I:-1", "f", "f:4294967295"}, {"I:-1", "I", "I:-1"}, {"I:4294967296", "i", "i:0"}, {"I:4294967296", "f", "f:0"}, {"I:4294967297", "i", "i:1"}, {"I:-9223372036854775808", "i", "i:0"}, {"I:-4294967295", "f", "f:1"},
		{"i:-1", "f", "f:4294967295"}, {"i:-1", "i", "i:-1"}, {"f:7", "f", "f:7"}, {"i:-1", "I", ""}, {"f:7", "i", ""}, {"f:7", "I", ""}, {"i:0", "I", ""}, {"f:0", "i", ""},
	} {
		if got, ok := impl.WordFrom(wordOrNone(c.place), typeOfLetter(c.want)); got != wordOrNone(c.word) || ok != (c.word != "") {
			t.Errorf("WordFrom(%s, %s) = %v, %t; want %s", c.place, c.want, got, ok, c.word)
		}
	}
}

// flatOut: a value, its words and what is laid for it in a memory full of ee, from Next on.
type flatOut struct {
	kind  string
	value string
	code  int
	next  int
	words string
	hex   string
}

func flatOuts() []flatOut {
	const u8, u16, compact = impl.CodeUtf8, impl.CodeUtf16, impl.CodeLatin
	return []flatOut{
		{"bool", "true", u8, 1, "i:1", ""}, {"u8", "255", u8, 1, "i:255", ""}, {"s8", "-2", u8, 1, "i:4294967294", ""}, {"s8", "127", u8, 1, "i:127", ""}, {"u16", "65535", u8, 1, "i:65535", ""}, {"s16", "-32768", u8, 1, "i:4294934528", ""},
		{"u32", "4294967295", u8, 1, "i:4294967295", ""}, {"s32", "-1", u8, 1, "i:4294967295", ""}, {"u64", "18446744073709551615", u8, 1, "I:-1", ""}, {"s64", "-2", u8, 1, "I:-2", ""}, {"f32", "4286578688", u8, 1, "f:4286578688", ""}, {"char", "1114111", u8, 1, "i:1114111", ""},
		{"flags<32>", "4294967295", u8, 1, "i:4294967295", ""}, {"flags<3>", "5", u8, 1, "i:5", ""}, {"enum<300>", "299", u8, 1, "i:299", ""},
		{"string", `"hi"`, u8, 1, "i:1 i:2", "6869"}, {"string", `"hi"`, u16, 1, "i:2 i:2", "ee68006900"}, {"string", `"hi"`, compact, 1, "i:2 i:2", "ee6869"}, {"string", `"\e2\82\ac"`, compact, 1, "i:2 i:2147483649", "eeac20"}, {"string", `""`, u8, 3, "i:3 i:0", ""}, {"string", `""`, u16, 3, "i:4 i:0", "ee"},
		{"list<u16>", "[1,2]", u8, 1, "i:2 i:2", "ee01000200"}, {"list<u64>", "[]", u8, 1, "i:8 i:0", "eeeeeeeeeeeeee"}, {"list<string>", `["a","bc"]`, u8, 0, "i:0 i:2", "10000000" + "01000000" + "11000000" + "02000000" + "61" + "6263"},
		// Between the parts of a list there is what was there.
		{"list<record<u8,u16>>", "[(1,2),(3,4)]", u8, 0, "i:0 i:2", "01ee0200" + "03ee0400"},
		{"list<variant<f32,u64,s8>>", "[2:-3]", u8, 0, "i:0 i:1", "02eeeeeeeeeeeeee" + "fdeeeeeeeeeeeeee"},
		{"record<u8,s64,f32>", "(1,-2,3)", u8, 1, "i:1 I:-2 f:3", ""}, {"record<string,u8,list<u8>>", `("a",7,[9])`, u8, 1, "i:1 i:1 i:7 i:2 i:1", "6109"}, {"record<string,string>", `("a","b")`, u16, 0, "i:0 i:1 i:2 i:1", "61006200"},
		{"record<list<string>,list<u8>>", `(["a"],[9])`, u8, 0, "i:0 i:1 i:9 i:1", "08000000" + "01000000" + "61" + "09"},
		{"option<u8>", "none", u8, 1, "i:0 i:0", ""}, {"option<u8>", "some:9", u8, 1, "i:1 i:9", ""}, {"option<f32>", "none", u8, 1, "i:0 f:0", ""}, {"option<f32>", "some:1", u8, 1, "i:1 f:1", ""}, {"option<u64>", "some:18446744073709551615", u8, 1, "i:1 I:-1", ""}, {"option<string>", "none", u16, 1, "i:0 i:0 i:0", ""}, {"option<string>", `some:"a"`, u16, 1, "i:1 i:2 i:1", "ee6100"},
		{"result<u8,u64>", "ok:255", u8, 1, "i:0 I:255", ""}, {"result<u8,u64>", "err:1", u8, 1, "i:1 I:1", ""}, {"result<f32,u8>", "ok:4286578688", u8, 1, "i:0 i:4286578688", ""}, {"result<f32,f32>", "err:1", u8, 1, "i:1 f:1", ""},
		// Bits of another type in the place are not widened by their sign.
		{"result<s8,s64>", "ok:-1", u8, 1, "i:0 I:4294967295", ""}, {"variant<f32,u64,s8>", "2:-3", u8, 1, "i:2 I:4294967293", ""}, {"variant<f32,u64,s8>", "0:2143289344", u8, 1, "i:0 I:2143289344", ""}, {"variant<f32,u64,s8>", "1:18446744073709551615", u8, 1, "i:1 I:-1", ""},
		// What is left over is noughts.
		{"variant<u8,string>", "0:5", u8, 1, "i:0 i:5 i:0", ""}, {"variant<record<f32,u64>,string>", `1:"a"`, u8, 1, "i:1 i:1 I:1", "61"}, {"variant<record<f32,u64>,string>", "0:(1,18446744073709551615)", u8, 1, "i:0 i:1 I:-1", ""}, {"variant<u8,record<u8,u64,f32,u8>>", "0:7", u8, 1, "i:0 i:7 I:0 f:0 i:0", ""},
		{"record<option<u64>,u8,option<f32>>", "(none,7,none)", u8, 1, "i:0 I:0 i:7 i:0 f:0", ""}, {"record<variant<u8,record<u8,u8>>,u8>", "(0:1,2)", u8, 1, "i:0 i:1 i:0 i:2", ""},
		// One within the other: places are of the types of the whole.
		{"variant<option<f32>,u64>", "0:some:1", u8, 1, "i:0 I:1 f:1", ""}, {"variant<option<f32>,string>", "0:some:1", u8, 1, "i:0 i:1 i:1", ""}, {"variant<option<f32>,record<u8,u64>>", "0:some:4286578688", u8, 1, "i:0 i:1 I:4286578688", ""}, {"variant<option<s8>,record<u8,u64>>", "0:some:-1", u8, 1, "i:0 i:1 I:4294967295", ""},
		{"option<option<option<u64>>>", "some:some:none", u8, 1, "i:1 i:1 i:0 I:0", ""}, {"result<result<f32,s8>,result<s64,f32>>", "ok:err:-1", u8, 1, "i:0 i:1 I:4294967295", ""}, {"option<variant<u8,list<string>>>", `some:1:["a"]`, u8, 0, "i:1 i:1 i:0 i:1", "08000000" + "01000000" + "61"},
	}
}

// Promise 14: values as words, one by one, and what they lay.
func TestWordsWrittenOutFlat(t *testing.T) {
	for _, c := range flatOuts() {
		x := typeTold(c.kind)
		l, ok := impl.ReadValue(x.nodes(), c.value)
		if !ok {
			t.Fatal("meant to be read:", c.kind, c.value)
		}
		was := filledHeap(1, 0xee, c.next)
		h, words, code := impl.LowerFlat(was, x.nodes(), l, c.code)
		if code != impl.LowerOk || !slices.Equal(words, wordsOf(c.words)) || hex.EncodeToString([]byte(h.Memory.Data[c.next:h.Next])) != c.hex {
			t.Errorf("%+v: %s, %x, %d, %d", c, wordsText(words), h.Memory.Data[c.next:h.Next], h.Next, code)
		}
		back, code := impl.LiftFlat(h.Memory, x.nodes(), wordsOf(c.words), c.code)
		if s, _ := impl.ValueText(x.nodes(), back); s != c.value || code != impl.LowerOk {
			t.Errorf("%+v: comes back as %s, %d", c, s, code)
		}
		checkFlat(t, was, x, l, c.code)
		checkFlat(t, filledHeap(1, 0, c.next), x, l, c.code)
	}
}

// Promise 14: values of every kind at their edges, in each code, alone and in places of all types.
func TestValuesOfEachKindFlat(t *testing.T) {
	for _, x := range append(plainTypes(), counted("flags", 16), counted("flags", 17), counted("enum", 256)) {
		x = handless(x)
		for _, n := range valueEdges {
			if !wantNumber(x, n) || x.kind == impl.KindString {
				continue
			}
			for i, other := range []typeTree{tree("u64"), tree("f32"), tree("u8"), tree("string"), tree("record", tree("f32"), tree("u64"))} {
				code := threeCodes[i%3]
				checkFlat(t, heapOf(1, 5), x, number(n).nodes(), code)
				checkFlat(t, heapOf(1, 5), tree("variant", other, x), number(1, number(n)).nodes(), code)
				checkFlat(t, heapOf(1, 5), tree("result", x, other), number(0, number(n)).nodes(), code)
				checkFlat(t, heapOf(1, 5), tree("record", tree("option", x), other), gathered(number(1, number(n)), wantZero(other)).nodes(), code)
			}
		}
		checkFlat(t, heapOf(1, 2), tree("list", x), gathered(wantZero(x), wantZero(x)).nodes(), impl.CodeUtf8)
	}
	for _, code := range threeCodes {
		for _, s := range someStrings() {
			checkFlat(t, heapOf(8, 5), tree("string"), written(s).nodes(), code)
			checkFlat(t, heapOf(8, 5), tree("variant", tree("record", tree("u64"), tree("f32"), tree("u64")), tree("string")), number(1, written(s)).nodes(), code)
		}
	}
}

// Promise 14: values of each type within lists, options, records, variants and results, each in each.
func TestValuesWithinValuesFlat(t *testing.T) {
	r := rand.New(rand.NewSource(143))
	var plain []typeTree
	for _, x := range plainTypes() {
		plain = append(plain, handless(x))
	}
	told := 0
	for i, x := range plain {
		for k, y := range plain {
			for n, outer := range []typeTree{tree("list", x), tree("option", x), tree("record", x, y), tree("variant", x, y), tree("result", x, y)} {
				code := threeCodes[(i+k+n)%3]
				checkFlat(t, heapOf(4, r.Intn(20)), outer, anyValue(r, outer, 12).nodes(), code)
				for _, outermost := range []typeTree{tree("list", outer), tree("option", outer), tree("record", outer, x, outer), tree("variant", y, outer), tree("result", outer, outer)} {
					if checkFlat(t, heapOf(8, r.Intn(20)), outermost, anyValue(r, outermost, 12).nodes(), code) == impl.LowerOk {
						told++
					}
				}
			}
		}
	}
	if want := len(plain) * len(plain) * 20; told < want {
		t.Errorf("%d became words, want %d", told, want)
	}
}

// Promise 14: any values of any types in any heaps; most of them with few enough words.
func TestAnyValuesFlat(t *testing.T) {
	r := rand.New(rand.NewSource(144))
	var codes [6]int
	var words [17]int
	largest := 0
	for i := range 20000 {
		x := anyFew(r, 40, 8)
		if i%8 == 0 {
			x = handless(anyTree(r, 40, 8))
		}
		l := anyValue(r, x, []int{5, 20, 100}[r.Intn(3)]).nodes()
		code := threeCodes[r.Intn(3)]
		codes[checkFlat(t, anyHeap(r), x, l, code)]++
		if checkFlat(t, heapOf(8, 0), x, l, code) == impl.LowerOk {
			largest = max(largest, len(l))
			words[len(wantFlat(x))]++
		}
	}
	if codes[impl.LowerOk] < 5000 || codes[impl.LowerRoom] < 500 || codes[impl.LowerBad] < 300 || largest != impl.MaxValueNodes || slices.Min(words[1:]) < 20 {
		t.Error("not far enough:", codes, largest, words)
	}
}

// Promise 14: what a list or a text has in a memory lies as LowerValue lays it, but for the place and the count.
func TestFlatLaysAsInMemory(t *testing.T) {
	r := rand.New(rand.NewSource(145))
	laid := 0
	for range 5000 {
		x := tree("list", handless(anyTree(r, 1+r.Intn(12), 5)))
		if r.Intn(4) == 0 {
			x = tree("string")
		}
		l, code := anyValue(r, x, 20).nodes(), threeCodes[r.Intn(3)]
		whole, at, fault := impl.LowerValue(heapOf(8, 0), x.nodes(), l, code)
		if fault != impl.LowerOk {
			continue
		}
		laid++
		// Place and count have 8 bytes, behind which all aligns are met as they are from 0 on.
		h, words, fault := impl.LowerFlat(heapOf(8, 8), x.nodes(), l, code)
		place, _ := impl.LoadInt(whole.Memory, at, 4, false)
		count, _ := impl.LoadInt(whole.Memory, at+4, 4, false)
		if fault != impl.LowerOk || !slices.Equal(words, []impl.Word{{Type: impl.TypeI32, Bits: place}, {Type: impl.TypeI32, Bits: count}}) || h.Next != whole.Next || h.Memory.Data[8:] != whole.Memory.Data[8:] {
			t.Fatalf("%s: %s, %d; %s, in a memory %s", x.text(), wordsText(words), fault, heapText(h), heapText(whole))
		}
	}
	if laid < 2000 {
		t.Error("too few were laid down:", laid)
	}
}

// Promise 14: what is laid for words stays, whatever is laid behind it.
func TestManyValuesFlat(t *testing.T) {
	r := rand.New(rand.NewSource(146))
	for range 300 {
		h, code := heapOf(8, 0), threeCodes[r.Intn(3)]
		var types []typeTree
		var values [][]impl.Value
		var rows [][]impl.Word
		for range 30 {
			x := anyFew(r, 8, 4)
			l := anyValue(r, x, 8).nodes()
			next, words, fault := impl.LowerFlat(h, x.nodes(), l, code)
			if fault == impl.LowerOk {
				types, values, rows = append(types, x), append(values, l), append(rows, words)
			}
			h = next
		}
		for i, x := range types {
			if back, fault := impl.LiftFlat(h.Memory, x.nodes(), rows[i], code); fault != impl.LowerOk || !slices.Equal(back, values[i]) {
				t.Fatalf("%s of %s: %v comes back as %v, %d", x.text(), wordsText(rows[i]), values[i], back, fault)
			}
		}
		if len(types) < 3 {
			t.Error("too few became words:", len(types))
		}
	}
}
