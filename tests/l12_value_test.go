package tests

import (
	"math"
	"math/rand"
	"slices"
	"strings"
	"testing"

	"loop.example/g00209/impl"
)

// valueAnswers: what the functions of chapter 12 tell of a value.
type valueAnswers struct {
	text  string
	count int
	same  bool
}

// tellValue asks every function that is told of a value; it fails where they do not agree on whether it fits, or tell
// something beside a false.
func tellValue(t *testing.T, types []impl.TypeNode, l []impl.Value) (valueAnswers, bool) {
	t.Helper()
	var a valueAnswers
	var oks [3]bool
	fits := impl.FitsType(types, l)
	a.text, oks[0] = impl.ValueText(types, l)
	a.count, oks[1] = impl.CountIn(types, l)
	a.same, oks[2] = impl.SameValue(types, l, slices.Clone(l))
	if oks != [3]bool{fits, fits, fits} || !fits && a != (valueAnswers{}) {
		t.Fatalf("%.300v, %.600v: fits %t, but told %v, %v", types, l, fits, oks, a)
	}
	return a, fits
}

// checkValues holds all that is told of a type and nodes, fitting or not, against what the test makes of them.
func checkValues(t *testing.T, x typeTree, l []impl.Value) bool {
	t.Helper()
	types := x.nodes()
	kept, keptTypes := slices.Clone(l), slices.Clone(types)
	got, fits := tellValue(t, types, l)
	v, is := wantValues(l)
	want := valueAnswers{}
	if is = is && wantTree(x) && len(l) <= 100 && wantFits(x, v); is {
		want = valueAnswers{wantText(x, v), len(l), true}
	}
	if fits != is || got != want {
		t.Fatalf("%s, %.600v: %t, %+v; want %t, %+v", x.text(), l, fits, got, is, want)
	}
	if !slices.Equal(l, kept) || !slices.Equal(types, keptTypes) {
		t.Fatalf("an argument has changed: %v, was %v; %v, was %v", l, kept, types, keptTypes)
	}
	return fits
}

// checkValueText holds ReadValue against the reader of the test.
func checkValueText(t *testing.T, x typeTree, s string) bool {
	t.Helper()
	l, ok := impl.ReadValue(x.nodes(), s)
	v, is := valueOfText(x, s)
	if ok != is || ok && !slices.Equal(l, v.nodes()) || !ok && len(l) > 0 {
		t.Fatalf("ReadValue(%s, %.600q) = %.600v, %t", x.text(), s, l, ok)
	}
	return ok
}

// checkValue: a value that fits comes back from its text; what does not is refused.
func checkValue(t *testing.T, x typeTree, v valueTree) bool {
	t.Helper()
	fits := checkValues(t, x, v.nodes())
	if !fits {
		return false
	}
	s, _ := impl.ValueText(x.nodes(), v.nodes())
	if back, ok := impl.ReadValue(x.nodes(), s); !ok || !slices.Equal(back, v.nodes()) {
		t.Fatalf("%s: %s comes back as %v, %t", x.text(), s, back, ok)
	}
	return checkValueText(t, x, s)
}

// checkFits: whether it fits, alone and as a part of others.
func checkFits(t *testing.T, x typeTree, v valueTree, fits bool) {
	t.Helper()
	u8 := tree("u8")
	for _, c := range []struct {
		x typeTree
		v valueTree
	}{
		{x, v}, {tree("list", x), gathered(v)}, {tree("list", x), gathered(v, v)}, {tree("option", x), number(1, v)}, {tree("record", x), gathered(v)}, {tree("record", u8, x, u8), gathered(number(1), v, number(2))},
		{tree("variant", u8, x), number(1, v)}, {tree("result", x, u8), number(0, v)}, {tree("result", u8, x), number(1, v)}, {tree("record", tree("list", tree("option", x)), u8), gathered(gathered(number(0), number(1, v)), number(3))},
	} {
		if !wantTree(c.x) || c.v.count() > 100 {
			continue
		}
		if got := impl.FitsType(c.x.nodes(), c.v.nodes()); got != fits {
			t.Errorf("FitsType(%s, %.300v) = %t", c.x.text(), c.v.nodes(), got)
		}
		checkValue(t, c.x, c.v)
	}
}

// Promise 12: values of every kind, told in nodes and as a text.
func TestValuesOfEachKind(t *testing.T) {
	for _, c := range []struct {
		kind string
		text string
		want []impl.Value
	}{
		{"bool", "false", []impl.Value{{Up: -1}}},
		{"bool", "true", []impl.Value{{N: 1, Up: -1}}},
		{"u8", "200", []impl.Value{{N: 200, Up: -1}}},
		{"s8", "-100", []impl.Value{{N: -100, Up: -1}}},
		{"u16", "40000", []impl.Value{{N: 40000, Up: -1}}},
		{"s16", "-30000", []impl.Value{{N: -30000, Up: -1}}},
		{"u32", "4000000000", []impl.Value{{N: 4000000000, Up: -1}}},
		{"s32", "-2000000000", []impl.Value{{N: -2000000000, Up: -1}}},
		{"u64", "18446744073709551615", []impl.Value{{N: -1, Up: -1}}},
		{"u64", "9223372036854775808", []impl.Value{{N: math.MinInt, Up: -1}}},
		{"s64", "-1", []impl.Value{{N: -1, Up: -1}}},
		{"s64", "-9223372036854775808", []impl.Value{{N: math.MinInt, Up: -1}}},
		{"f32", "1065353216", []impl.Value{{N: 0x3f800000, Up: -1}}},
		{"char", "8364", []impl.Value{{N: 8364, Up: -1}}},
		{"string", `""`, []impl.Value{{Up: -1}}},
		{"string", `"a b\22\5c\0a\7f\c3\a4~"`, []impl.Value{{Text: "a b\"\\\n\x7f\u00e4~", Up: -1}}},
		{"list<u8>", "[]", []impl.Value{{Up: -1}}},
		{"list<u8>", "[1]", []impl.Value{{Up: -1}, {N: 1}}},
		{"list<s8>", "[-1,2,-3]", []impl.Value{{Up: -1}, {N: -1}, {N: 2}, {N: -3}}},
		{"list<list<u8>>", "[[],[1,2],[3]]", []impl.Value{{Up: -1}, {}, {}, {N: 1, Up: 2}, {N: 2, Up: 2}, {}, {N: 3, Up: 5}}},
		{"list<string>", `["a,b","]"]`, []impl.Value{{Up: -1}, {Text: "a,b"}, {Text: "]"}}},
		{"record<u8>", "(7)", []impl.Value{{Up: -1}, {N: 7}}},
		{"record<u8,string,bool>", `(7,"x",true)`, []impl.Value{{Up: -1}, {N: 7}, {Text: "x"}, {N: 1}}},
		{"variant<u8>", "0:9", []impl.Value{{Up: -1}, {N: 9}}},
		{"variant<u8,string,bool>", `1:"y"`, []impl.Value{{N: 1, Up: -1}, {Text: "y"}}},
		{"variant<u8,string,bool>", "2:true", []impl.Value{{N: 2, Up: -1}, {N: 1}}},
		{"flags<3>", "5", []impl.Value{{N: 5, Up: -1}}},
		{"flags<32>", "4294967295", []impl.Value{{N: 4294967295, Up: -1}}},
		{"option<u8>", "none", []impl.Value{{Up: -1}}},
		{"option<u8>", "some:4", []impl.Value{{N: 1, Up: -1}, {N: 4}}},
		{"option<option<u8>>", "some:none", []impl.Value{{N: 1, Up: -1}, {}}},
		{"option<option<u8>>", "some:some:4", []impl.Value{{N: 1, Up: -1}, {N: 1}, {N: 4, Up: 1}}},
		{"result<u8,string>", "ok:5", []impl.Value{{Up: -1}, {N: 5}}},
		{"result<u8,string>", `err:"no"`, []impl.Value{{N: 1, Up: -1}, {Text: "no"}}},
		{"enum<300>", "299", []impl.Value{{N: 299, Up: -1}}},
		{"own<3>", "100000", []impl.Value{{N: 100000, Up: -1}}},
		{"borrow<3>", "0", []impl.Value{{Up: -1}}},
		{"record<option<u8>,list<option<u8>>,variant<result<u8,bool>>>", "(some:1,[none,some:2],0:err:true)", []impl.Value{{Up: -1}, {N: 1}, {N: 1, Up: 1}, {}, {Up: 3}, {N: 1, Up: 3}, {N: 2, Up: 5}, {}, {N: 1, Up: 7}, {N: 1, Up: 8}}},
	} {
		x := typeTold(c.kind)
		got, fits := tellValue(t, x.nodes(), c.want)
		if want := (valueAnswers{c.text, len(c.want), true}); !fits || got != want {
			t.Errorf("%s: %t, %+v, want %+v", c.kind, fits, got, want)
		}
		if l, ok := impl.ReadValue(x.nodes(), c.text); !ok || !slices.Equal(l, c.want) {
			t.Errorf("ReadValue(%s, %s) = %v, %t", c.kind, c.text, l, ok)
		}
		v, _ := wantValues(c.want)
		checkFits(t, x, v, true)
	}
}

// plainTypes: one of each kind that has no parts, some with several N.
func plainTypes() []typeTree {
	l := []typeTree{counted("flags", 1), counted("flags", 8), counted("flags", 9), counted("flags", 32), counted("enum", 1), counted("enum", 257), counted("enum", 300), counted("own", 3), counted("borrow", 9)}
	for kind := impl.KindBool; kind <= impl.KindString; kind++ {
		l = append(l, typeTree{kind: kind})
	}
	return l
}

// Promise 12: values of each type within lists, options, records, variants and results, each in each.
func TestValuesWithinValues(t *testing.T) {
	r := rand.New(rand.NewSource(121))
	plain := plainTypes()
	for _, x := range plain {
		for _, y := range plain {
			for _, outer := range []typeTree{tree("list", x), tree("option", x), tree("record", x, y), tree("variant", x, y), tree("result", x, y)} {
				checkValue(t, outer, anyValue(r, outer, 20))
				for _, outermost := range []typeTree{tree("list", outer), tree("option", outer), tree("record", outer, x, outer), tree("variant", y, outer), tree("result", outer, outer)} {
					if v := anyValue(r, outermost, 20); !checkValue(t, outermost, v) {
						t.Fatal("meant to fit:", outermost.text(), v)
					}
				}
			}
		}
	}
}

// Promise 12: any values of any types come back, up to MaxValueNodes nodes.
func TestAnyValues(t *testing.T) {
	r := rand.New(rand.NewSource(122))
	largest, longest := 0, 0
	for range 20000 {
		x := anyTree(r, 1+r.Intn(40), 1+r.Intn(8))
		v := anyValue(r, x, 100)
		if !checkValue(t, x, v) {
			t.Fatal("meant to fit:", x.text(), v.nodes())
		}
		s, _ := impl.ValueText(x.nodes(), v.nodes())
		largest, longest = max(largest, v.count()), max(longest, len(s))
	}
	if largest != impl.MaxValueNodes || longest < 10000 {
		t.Error("not far enough:", largest, longest)
	}
}

// checkZero: what ZeroOf tells fits, has N 0 and no Text, and has no parts in lists and options.
func checkZero(t *testing.T, x typeTree) {
	t.Helper()
	l, ok := impl.ZeroOf(x.nodes())
	if !wantTree(x) {
		if ok || len(l) > 0 {
			t.Fatalf("ZeroOf(%v) = %v, %t", x.nodes(), l, ok)
		}
		return
	}
	if !ok || !slices.Equal(l, wantZero(x).nodes()) || !impl.FitsType(x.nodes(), l) {
		t.Fatalf("ZeroOf(%s) = %v, %t", x.text(), l, ok)
	}
	for _, v := range l {
		if v.N != 0 || v.Text != "" {
			t.Fatalf("ZeroOf(%s) = %v", x.text(), l)
		}
	}
	v, _ := wantValues(l)
	checkValue(t, x, v)
}

// Promise 12: values of noughts.
func TestValuesOfNoughts(t *testing.T) {
	for kind, want := range map[string]string{
		"bool": "false", "u8": "0", "s8": "0", "u16": "0", "s16": "0", "u32": "0", "s32": "0", "u64": "0", "s64": "0", "f32": "0", "char": "0", "string": `""`, "flags<32>": "0", "enum<1>": "0", "enum<300>": "0", "own<9>": "0", "borrow<0>": "0",
		"list<u8>": "[]", "list<record<u8,u8>>": "[]", "option<u8>": "none", "option<record<string>>": "none", "record<u8>": "(0)", "record<bool,string,list<u8>,option<u8>>": `(false,"",[],none)`,
		"variant<u8>": "0:0", "variant<string,u8>": `0:""`, "variant<variant<list<u8>>,u8>": "0:0:[]", "result<bool,u8>": "ok:false", "result<result<string,u8>,u8>": `ok:ok:""`, "record<record<u8,bool>,result<option<u8>,u8>,record<char>>": "((0,false),ok:none,(0))",
	} {
		x := typeTold(kind)
		l, ok := impl.ZeroOf(x.nodes())
		if s, told := impl.ValueText(x.nodes(), l); !ok || !told || s != want {
			t.Errorf("ZeroOf(%s) = %v, %t: %s, want %s", kind, l, ok, s, want)
		}
		checkZero(t, x)
	}
	r := rand.New(rand.NewSource(123))
	for range 20000 {
		checkZero(t, anyTree(r, 1+r.Intn(43), 1+r.Intn(9)))
	}
	for _, x := range smallTrees(5, tree("u8"), tree("string"), tree("list"), tree("record"), tree("variant"), tree("option"), tree("result")) {
		checkZero(t, x)
	}
	wide := tree("record", append(alike(tree("record", alike(tree("string"), 4)...), 7), tree("record", alike(tree("string"), 3)...))...)
	if l, ok := impl.ZeroOf(wide.nodes()); !ok || len(l) != 40 {
		t.Errorf("ZeroOf(%s) = %v, %t", wide.text(), l, ok)
	}
	if l, ok := impl.ZeroOf(nil); ok || len(l) > 0 {
		t.Errorf("ZeroOf(nil) = %v, %t", l, ok)
	}
}

// checkSameValue holds SameValue both ways against what is wanted.
func checkSameValue(t *testing.T, x typeTree, a []impl.Value, b []impl.Value, same bool, ok bool) {
	t.Helper()
	for _, pair := range [][2][]impl.Value{{a, b}, {b, a}} {
		if got, told := impl.SameValue(x.nodes(), pair[0], pair[1]); got != same || told != ok {
			t.Fatalf("SameValue(%s, %v, %v) = %t, %t; want %t, %t", x.text(), pair[0], pair[1], got, told, same, ok)
		}
	}
}

// Promise 12: which values are the same.
func TestSameValues(t *testing.T) {
	for _, c := range []struct {
		kind string
		a    string
		b    string
		same bool
	}{
		{"u8", "1", "1", true},
		{"u8", "1", "2", false},
		{"s64", "-1", "9223372036854775807", false},
		{"u64", "18446744073709551615", "0", false},
		// 0 and -0 have other bits; what is no number is itself.
		{"f32", "0", "2147483648", false},
		{"f32", "2143289344", "2143289344", true},
		{"string", `"a"`, `"a"`, true},
		{"string", `"a"`, `"b"`, false},
		{"string", `"a"`, `"aa"`, false},
		{"string", `""`, `"\00"`, false},
		{"list<u8>", "[]", "[]", true},
		{"list<u8>", "[]", "[0]", false},
		{"list<u8>", "[1,2]", "[1,2]", true},
		{"list<u8>", "[1,2]", "[2,1]", false},
		{"list<u8>", "[1,2]", "[1,2,3]", false},
		// The same numbers, otherwise gathered.
		{"list<list<u8>>", "[[1],[]]", "[[],[1]]", false},
		{"list<list<list<u8>>>", "[[[],[]]]", "[[[]],[]]", false},
		{"option<u8>", "none", "some:0", false},
		{"option<u8>", "some:0", "some:0", true},
		{"result<u8,u8>", "ok:1", "err:1", false},
		{"variant<u8,u8>", "0:1", "1:1", false},
		{"record<u8,string>", `(1,"a")`, `(1,"a")`, true},
		{"record<u8,string>", `(1,"a")`, `(1,"b")`, false},
		{"record<u8,u8>", "(1,2)", "(2,2)", false},
	} {
		x := typeTold(c.kind)
		a, read := impl.ReadValue(x.nodes(), c.a)
		b, alsoRead := impl.ReadValue(x.nodes(), c.b)
		if !read || !alsoRead {
			t.Fatal("meant to be read:", c)
		}
		checkSameValue(t, x, a, b, c.same, true)
		checkSameValue(t, x, a, nil, false, false)
		checkSameValue(t, x, a, append(slices.Clone(b), impl.Value{Up: -1}), false, false)
		checkSameValue(t, typeTold("record<list<u8>,string,string>"), a, a, false, false)
	}
	r := rand.New(rand.NewSource(124))
	others := 0
	for range 20000 {
		x := anyTree(r, 1+r.Intn(40), 1+r.Intn(8))
		a := anyValue(r, x, 30).nodes()
		b := spoiltValues(r, a)
		v, is := wantValues(b)
		is = is && wantFits(x, v)
		checkSameValue(t, x, a, b, is && slices.Equal(a, b), is)
		if is && !slices.Equal(a, b) {
			others++
		}
		checkSameValue(t, x, a, slices.Clone(a), true, true)
		checkSameValue(t, typeTree{}, a, a, false, false)
	}
	if others < 1000 {
		t.Error("too few that fit and are others:", others)
	}
}

// Promise 12: the longest texts that there are.
func TestLongestValueTexts(t *testing.T) {
	for _, s := range []string{strings.Repeat("\x00", 200), strings.Repeat("\u00e4", 100), strings.Repeat("a", 200)} {
		checkValue(t, tree("list", tree("string")), often(written(s), 99))
		checkValue(t, tree("list", tree("variant", tree("option", tree("string")))), often(number(0, number(1, written(s))), 33))
		checkValue(t, tree("record", alike(tree("list", tree("string")), 8)...), often(often(written(s), 11), 8))
	}
}
