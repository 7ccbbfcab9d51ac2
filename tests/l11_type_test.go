package tests

import (
	"fmt"
	"math/rand"
	"slices"
	"strings"
	"testing"

	"loop.example/g00209/impl"
)

// typeAnswers: what the functions of chapter 11 tell of nodes; flat are the letters of core types. Offsets and flat are
// "none" where there is a false beside them.
type typeAnswers struct {
	text    string
	size    int
	align   int
	offsets string
	flat    string
	handles bool
}

func wantAnswers(x typeTree) typeAnswers {
	size, align, offsets := wantRoom(x)
	a := typeAnswers{x.text(), size, align, "none", wantFlat(x), x.has(impl.KindOwn, impl.KindBorrow)}
	if offsets != nil {
		a.offsets = fmt.Sprint(offsets)
	}
	if len(a.flat) > 40 {
		a.flat = "none"
	}
	return a
}

// tellAll asks every function; it fails where one tells something beside a false, or where those that tell of every good
// type do not agree on whether it is one.
func tellAll(t *testing.T, l []impl.TypeNode) (typeAnswers, bool) {
	t.Helper()
	a := typeAnswers{offsets: "none", flat: "none"}
	good := impl.GoodType(l)
	var oks [4]bool
	a.text, oks[0] = impl.TypeText(l)
	a.size, oks[1] = impl.SizeOf(l)
	a.align, oks[2] = impl.AlignOf(l)
	a.handles, oks[3] = impl.HasHandles(l)
	if oks != [4]bool{good, good, good, good} {
		t.Fatalf("%.600v: good %t, but told %v", l, good, oks)
	}
	offsets, ok := impl.OffsetsOf(l)
	if ok {
		a.offsets = fmt.Sprint(offsets)
	} else if len(offsets) > 0 {
		t.Fatalf("OffsetsOf(%v) = %v, false", l, offsets)
	}
	flat, ok := impl.FlatOf(l)
	if ok {
		a.flat = lettersOfTypes(flat)
	} else if len(flat) > 0 {
		t.Fatalf("FlatOf(%v) = %v, false", l, flat)
	}
	return a, good
}

// checkNodes holds all that is told of nodes, good or not, against what the test reckons of the tree that they are.
func checkNodes(t *testing.T, l []impl.TypeNode) bool {
	t.Helper()
	kept := slices.Clone(l)
	got, good := tellAll(t, l)
	x, is := treeOfNodes(l)
	if is = is && wantTree(x); is != good {
		t.Fatalf("GoodType(%.600v) = %t", l, good)
	}
	want := typeAnswers{offsets: "none", flat: "none"}
	if is {
		want = wantAnswers(x)
	}
	if got != want {
		t.Fatalf("%.600v: %+v, want %+v", l, got, want)
	}
	if !slices.Equal(l, kept) {
		t.Fatalf("the argument has changed: %v, was %v", l, kept)
	}
	return good
}

// checkTypeText holds ReadType against the reader of the test.
func checkTypeText(t *testing.T, s string) bool {
	t.Helper()
	l, ok := impl.ReadType(s)
	x, is := treeOfText(s)
	if ok != is || ok && !slices.Equal(l, x.nodes()) || !ok && len(l) > 0 {
		t.Fatalf("ReadType(%.600q) = %.600v, %t", s, l, ok)
	}
	return ok
}

// checkTree: a good type comes back from its text, and all that is told of it fits; what is not good is refused.
func checkTree(t *testing.T, x typeTree) {
	t.Helper()
	good := checkNodes(t, x.nodes())
	if read := checkTypeText(t, x.text()); good && !read {
		t.Fatalf("%s is not read", x.text())
	}
	if back, ok := impl.ReadType(x.text()); good && (!ok || !slices.Equal(back, x.nodes())) {
		t.Fatalf("%s comes back as %v, %t", x.text(), back, ok)
	}
	if good {
		checkLaws(t, x)
	}
}

// checkLaws: sizes are multiples of aligns, fields lie one behind the other within them, and so does what a variant has.
func checkLaws(t *testing.T, x typeTree) {
	t.Helper()
	l := x.nodes()
	size, _ := impl.SizeOf(l)
	align, _ := impl.AlignOf(l)
	if !slices.Contains([]int{1, 2, 4, 8}, align) || size%align != 0 || size < 1 {
		t.Fatalf("%s: size %d, align %d", x.text(), size, align)
	}
	offsets, ok := impl.OffsetsOf(l)
	if !ok {
		return
	}
	end := 0
	for i, p := range x.parts {
		at := offsets[0]
		if x.kind == impl.KindRecord {
			at = offsets[i]
		} else if end = 1; len(offsets) != 1 {
			t.Fatalf("%s: the parts begin at %v", x.text(), offsets)
		}
		partSize, _ := impl.SizeOf(p.nodes())
		partAlign, _ := impl.AlignOf(p.nodes())
		if at < end || at%partAlign != 0 || at+partSize > size || align%partAlign != 0 {
			t.Fatalf("%s: offsets %v, size %d", x.text(), offsets, size)
		}
		end = at + partSize
	}
}

// Promise 11: every kind, told in nodes and as a text, with all that holds of it.
func TestTypesOfEachKind(t *testing.T) {
	for _, c := range []struct {
		x    typeTree
		want typeAnswers
	}{
		{tree("bool"), typeAnswers{"bool", 1, 1, "none", "i", false}},
		{tree("u8"), typeAnswers{"u8", 1, 1, "none", "i", false}},
		{tree("s8"), typeAnswers{"s8", 1, 1, "none", "i", false}},
		{tree("u16"), typeAnswers{"u16", 2, 2, "none", "i", false}},
		{tree("s16"), typeAnswers{"s16", 2, 2, "none", "i", false}},
		{tree("u32"), typeAnswers{"u32", 4, 4, "none", "i", false}},
		{tree("s32"), typeAnswers{"s32", 4, 4, "none", "i", false}},
		{tree("u64"), typeAnswers{"u64", 8, 8, "none", "I", false}},
		{tree("s64"), typeAnswers{"s64", 8, 8, "none", "I", false}},
		{tree("f32"), typeAnswers{"f32", 4, 4, "none", "f", false}},
		{tree("char"), typeAnswers{"char", 4, 4, "none", "i", false}},
		{tree("string"), typeAnswers{"string", 8, 4, "none", "ii", false}},
		{tree("list", tree("u64")), typeAnswers{"list<u64>", 8, 4, "none", "ii", false}},
		{tree("record", tree("u8"), tree("u64"), tree("u16")), typeAnswers{"record<u8,u64,u16>", 24, 8, "[0 8 16]", "iIi", false}},
		{tree("variant", tree("u8"), tree("u64"), tree("f32")), typeAnswers{"variant<u8,u64,f32>", 16, 8, "[8]", "iI", false}},
		{counted("flags", 9), typeAnswers{"flags<9>", 2, 2, "none", "i", false}},
		{tree("option", tree("u16")), typeAnswers{"option<u16>", 4, 2, "[2]", "ii", false}},
		{tree("result", tree("string"), tree("f32")), typeAnswers{"result<string,f32>", 12, 4, "[4]", "iii", false}},
		{counted("enum", 300), typeAnswers{"enum<300>", 2, 2, "none", "i", false}},
		{counted("own", 0), typeAnswers{"own<0>", 4, 4, "none", "i", true}},
		{counted("borrow", 9), typeAnswers{"borrow<9>", 4, 4, "none", "i", true}},
	} {
		if got, good := tellAll(t, c.x.nodes()); !good || got != c.want {
			t.Errorf("%s: %+v, want %+v", c.want.text, got, c.want)
		}
		checkTree(t, c.x)
	}
}

// Promise 11: types within lists, options, records, variants and results, each in each.
func TestTypesWithinTypes(t *testing.T) {
	plain := []typeTree{counted("flags", 1), counted("flags", 16), counted("flags", 32), counted("enum", 256), counted("enum", 257), counted("own", 3), counted("borrow", 4)}
	for kind := impl.KindBool; kind <= impl.KindString; kind++ {
		plain = append(plain, typeTree{kind: kind})
	}
	around := func(x typeTree, y typeTree) []typeTree {
		return []typeTree{tree("list", x), tree("option", x), tree("record", x), tree("record", x, y), tree("variant", x), tree("variant", x, y), tree("result", x, y)}
	}
	for _, x := range plain {
		for _, y := range plain {
			for _, outer := range around(x, y) {
				checkTree(t, outer)
				for _, outermost := range around(outer, x) {
					checkTree(t, outermost)
				}
				for _, outermost := range around(y, outer) {
					checkTree(t, outermost)
				}
			}
		}
	}
}

// Promise 11: types of up to MaxTypeNodes nodes and MaxTypeDeep deep, and some beyond.
func TestAnyTypes(t *testing.T) {
	r := rand.New(rand.NewSource(111))
	largest, deepest, refused := 0, 0, 0
	for range 20000 {
		x := anyTree(r, 1+r.Intn(43), 1+r.Intn(9))
		checkTree(t, x)
		if wantTree(x) {
			largest, deepest = max(largest, x.count()), max(deepest, x.deep())
		} else {
			refused++
		}
	}
	if largest != impl.MaxTypeNodes || deepest != impl.MaxTypeDeep || refused == 0 {
		t.Error("not far enough:", largest, deepest, refused)
	}
}

// Promise 11: rooms of records and variants.
func TestTypesInTheirRooms(t *testing.T) {
	for _, c := range []struct {
		text    string
		size    int
		align   int
		offsets string
	}{
		{"record<u8>", 1, 1, "[0]"},
		{"record<u8,u8,u8>", 3, 1, "[0 1 2]"},
		{"record<u8,u16,u8>", 6, 2, "[0 2 4]"},
		{"record<u16,u8,u8>", 4, 2, "[0 2 3]"},
		{"record<u64,u8>", 16, 8, "[0 8]"},
		{"record<u8,record<u8,u32>,u8>", 16, 4, "[0 4 12]"},
		{"record<u8,record<u16,u64>,u8,u8>", 32, 8, "[0 8 24 25]"},
		{"record<bool,char,string,list<u64>,f32>", 28, 4, "[0 4 8 16 24]"},
		{"record<flags<8>,flags<9>,flags<17>,enum<256>,enum<257>>", 12, 4, "[0 2 4 8 10]"},
		{"record<u8,own<1>,u8,borrow<2>>", 16, 4, "[0 4 8 12]"},
		{"record<u8,u16,u32,u64,u8,u16,u32,u64>", 32, 8, "[0 2 4 8 16 18 20 24]"},
		{"record<u8,option<u8>,u8>", 4, 1, "[0 1 3]"},
		{"record<u8,option<u64>,u8>", 32, 8, "[0 8 24]"},
		{"variant<u8>", 2, 1, "[1]"},
		{"variant<u8,u8,u8,u8,u8,u8,u8,u8>", 2, 1, "[1]"},
		{"variant<u16,u8>", 4, 2, "[2]"},
		{"variant<record<u8,u8,u8>,u16>", 6, 2, "[2]"},
		{"variant<record<u8,u8,u8,u8,u8>,u64>", 16, 8, "[8]"},
		{"variant<string,u64>", 16, 8, "[8]"},
		{"variant<variant<u8>,variant<u16>,variant<u32>>", 12, 4, "[4]"},
		{"option<bool>", 2, 1, "[1]"},
		{"option<string>", 12, 4, "[4]"},
		{"option<s64>", 16, 8, "[8]"},
		{"option<option<option<u32>>>", 16, 4, "[4]"},
		{"result<u8,u8>", 2, 1, "[1]"},
		{"result<u8,u64>", 16, 8, "[8]"},
		{"result<record<u8,u8,u8>,enum<300>>", 6, 2, "[2]"},
		{"list<record<u64,u64>>", 8, 4, "none"},
	} {
		l, ok := impl.ReadType(c.text)
		got, _ := tellAll(t, l)
		if !ok || got.size != c.size || got.align != c.align || got.offsets != c.offsets {
			t.Errorf("%s: %+v, want %+v", c.text, got, c)
		}
		checkTypeText(t, c.text)
	}
}

// Promise 11: what the parts of a variant have at a place is joined; where only some go on, that is theirs.
func TestTypesFlat(t *testing.T) {
	for text, want := range map[string]string{
		"variant<u32,u32>":                             "ii",
		"variant<f32,f32>":                             "if",
		"variant<u64,s64>":                             "iI",
		"variant<u32,f32>":                             "ii",
		"variant<f32,u32>":                             "ii",
		"variant<f32,f32,char>":                        "ii",
		"variant<u32,u64>":                             "iI",
		"variant<s64,u8>":                              "iI",
		"variant<f32,u64>":                             "iI",
		"variant<u64,f32>":                             "iI",
		"variant<f32,u32,u64>":                         "iI",
		"variant<u64,u32,f32>":                         "iI",
		"variant<u32,u64,f32,bool>":                    "iI",
		"variant<f32>":                                 "if",
		"option<f32>":                                  "if",
		"option<u64>":                                  "iI",
		"option<record<f32,u64,u8>>":                   "ifIi",
		"result<f32,string>":                           "iii",
		"result<record<f32,f32>,f32>":                  "iff",
		"result<f32,record<f32,f32>>":                  "iff",
		"result<record<f32,f32,u64>,record<u8,f32>>":   "iifI",
		"result<record<u8,f32>,record<f32,f32,u64>>":   "iifI",
		"variant<f32,record<f32,u64>,record<f32,u8>>":  "ifI",
		"variant<list<u64>,record<u64,f32,f32>,f32>":   "iIif",
		"variant<option<f32>,record<u64,u64>,string>":  "iII",
		"result<result<f32,f32>,result<f32,f32>>":      "iif",
		"option<option<option<f32>>>":                  "iiif",
		"record<f32,option<f32>,u64,string,flags<32>>": "fifIiii",
		"record<record<record<f32>>>":                  "f",
		"list<record<f32,u64>>":                        "ii",
		"own<9>":                                       "i",
		"variant<own<1>,borrow<2>,f32>":                "ii",
		"variant<enum<257>,flags<32>,f32>":             "ii",
	} {
		l, ok := impl.ReadType(text)
		if got, _ := tellAll(t, l); !ok || got.flat != want {
			t.Errorf("%s: %s, want %s", text, got.flat, want)
		}
		checkTypeText(t, text)
		checkNodes(t, l)
	}
}

// Promise 11: handles at the root, at the deepest place, behind other parts, and none.
func TestTypesWithHandles(t *testing.T) {
	for _, name := range []string{"own", "borrow"} {
		h := counted(name, 5)
		for _, x := range []typeTree{
			h, tree("list", h), tree("option", h), tree("record", h), tree("variant", tree("u8"), h), tree("result", h, tree("u8")), tree("result", tree("u8"), h),
			within("option", 7, h), within("list", 7, h), tree("record", append(alike(tree("string"), 7), h)...),
			tree("record", tree("record", alike(tree("u8"), 8)...), tree("variant", tree("list", h), tree("u8"))),
		} {
			if has, ok := impl.HasHandles(x.nodes()); !has || !ok {
				t.Errorf("HasHandles(%s) = %t, %t", x.text(), has, ok)
			}
		}
	}
	for _, s := range []string{"u8", "string", "flags<20>", "enum<21>", "list<list<u8>>", "record<flags<20>,enum<20>>", "result<u8,enum<300>>", strings.Repeat("option<", 7) + "char" + strings.Repeat(">", 7)} {
		l, _ := impl.ReadType(s)
		if has, ok := impl.HasHandles(l); has || !ok {
			t.Errorf("HasHandles(%s) = %t, %t", s, has, ok)
		}
	}
}
