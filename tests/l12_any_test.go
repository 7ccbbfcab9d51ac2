package tests

import (
	"fmt"
	"math"
	"math/rand"
	"slices"
	"strings"
	"testing"

	"loop.example/g00209/impl"
)

// typeValueText: what the functions of chapter 12 are given.
type typeValueText struct {
	types []impl.TypeNode
	a     []impl.Value
	b     []impl.Value
	s     string
}

// answers: what every function of chapter 12 answers, as a text.
func (g typeValueText) answers() string {
	zero, ok := impl.ZeroOf(g.types)
	text, told := impl.ValueText(g.types, g.a)
	read, good := impl.ReadValue(g.types, g.s)
	many, counted := impl.CountIn(g.types, g.a)
	same, both := impl.SameValue(g.types, g.a, g.b)
	return fmt.Sprintln(impl.FitsType(g.types, g.a), zero, ok, text, told, read, good, many, counted, same, both)
}

// checkGiven: they answer, in a way that fits, and write into nothing.
func checkGiven(t *testing.T, g typeValueText) string {
	t.Helper()
	defer func() {
		if r := recover(); r != nil {
			t.Fatalf("panic at %.300v, %.300v, %.100q: %v", g.types, g.a, g.s, r)
		}
	}()
	types, a, b := slices.Clone(g.types), slices.Clone(g.a), slices.Clone(g.b)
	told := g.answers()
	_, fits := tellValue(t, g.types, g.a)
	_, otherFits := tellValue(t, g.types, g.b)
	if same, ok := impl.SameValue(g.types, g.a, g.b); ok != (fits && otherFits) || same != (ok && slices.Equal(g.a, g.b)) {
		t.Fatalf("SameValue(%.300v, %.300v, %.300v) = %t, %t", g.types, g.a, g.b, same, ok)
	}
	zero, ok := impl.ZeroOf(g.types)
	if ok != impl.GoodType(g.types) || ok != impl.FitsType(g.types, zero) || !ok && len(zero) > 0 {
		t.Fatalf("ZeroOf(%.300v) = %v, %t", g.types, zero, ok)
	}
	back, ok := impl.ReadValue(g.types, g.s)
	if ok != impl.FitsType(g.types, back) || !ok && len(back) > 0 {
		t.Fatalf("ReadValue(%.300v, %.100q) = %v, %t", g.types, g.s, back, ok)
	}
	if again, _ := impl.ValueText(g.types, back); ok && again != g.s {
		t.Fatalf("ReadValue(%.300v, %.100q) is told as %s", g.types, g.s, again)
	}
	if !slices.Equal(g.types, types) || !slices.Equal(g.a, a) || !slices.Equal(g.b, b) {
		t.Fatalf("an argument has changed: %.300v, %.300v, %.300v", g.types, g.a, g.b)
	}
	return told
}

// anyGiven: a value that fits and its text, mostly, with something beside it that may be anything.
func anyGiven(r *rand.Rand) typeValueText {
	x := anyTree(r, 1+r.Intn(40), 1+r.Intn(8))
	v := anyValue(r, x, 1+r.Intn(100))
	g := typeValueText{x.nodes(), v.nodes(), anyValue(r, x, 10).nodes(), wantText(x, v)}
	if r.Intn(2) == 0 {
		g.b = slices.Clone(g.a)
	}
	for range r.Intn(4) {
		switch r.Intn(4) {
		case 0:
			g.a = spoiltValues(r, g.a)
		case 1:
			g.b = spoiltValues(r, g.b)
		case 2:
			g.s = spoiltTold(r, g.s)
		default:
			g.types = spoiltNodes(r, g.types)
		}
	}
	return g
}

// Promise 19: every function answers at any arguments.
func TestValuesAnswerAtAnything(t *testing.T) {
	types := [][]impl.TypeNode{nil, {}, {{}}, make([]impl.TypeNode, 100000), typeTold("string").nodes(), typeTold("list<u8>").nodes(), typeTold("list<list<list<string>>>").nodes(), within("option", 7, tree("u64")).nodes(), typeTold("record<u8,list<s64>>").nodes(), typeTold("variant<u8,list<s64>>").nodes(), typeTold("result<flags<32>,enum<300>>").nodes(), typeTold("own<3>").nodes()}
	values := [][]impl.Value{nil, {}, {{}}, {{Up: -1}}, make([]impl.Value, 101), make([]impl.Value, 100000), slices.Repeat([]impl.Value{{Up: -1}}, 100000), {{Text: strings.Repeat("\xff", 1<<20), Up: -1}}, {{Text: text(1 << 20), Up: -1}}, {{Up: 1}, {Up: 0}}, {{Up: -1}, {Up: 2}, {Up: 1}}}
	for _, n := range anyInts() {
		for _, m := range anyInts() {
			values = append(values, []impl.Value{{N: n, Up: m}}, []impl.Value{{N: n, Up: -1}}, []impl.Value{{N: n, Up: -1}, {N: m, Up: 0}}, []impl.Value{{Up: -1}, {N: n, Up: m}}, []impl.Value{{Up: -1}, {Up: n}, {Up: m}})
		}
	}
	var ahead []impl.Value
	for i := range 100000 {
		ahead = append(ahead, impl.Value{N: 1, Up: i - 1})
	}
	values = append(values, ahead, ahead[:100], ahead[:101], ahead[:8], ahead[:9])
	texts := []string{"", "0", "\"", "\x00", "\xff\xfe", text(1000000), strings.Repeat("[", 1000000), strings.Repeat("(", 1000000), strings.Repeat("some:", 100000), strings.Repeat("0:", 100000), strings.Repeat("ok:", 100000), strings.Repeat("9", 1000000), strings.Repeat("-", 1000000), "\"" + strings.Repeat("\\", 1000000), "[" + strings.Repeat("[],", 100000), "[" + strings.Repeat("\"a\",", 100000) + "]", "[" + strings.Repeat(",", 1000000), "[[[" + strings.Repeat("],[", 100000)}
	for i, l := range values {
		for k, nodes := range types {
			if (i+k)%3 == 0 || i < 11 {
				checkGiven(t, typeValueText{nodes, l, values[(i+k)%len(values)], texts[i%5]})
			}
		}
	}
	for _, s := range texts {
		for _, nodes := range types {
			checkGiven(t, typeValueText{nodes, nil, nil, s})
		}
	}
	bytesOfValues := "[](),:\"\\01-sometrueokn "
	r := rand.New(rand.NewSource(128))
	for range 20000 {
		checkGiven(t, anyGiven(r))
		var wild []impl.Value
		for range r.Intn(6) {
			wild = append(wild, impl.Value{N: anyPlace(r), Text: anyText(r), Up: anyPlace(r)})
		}
		b := make([]byte, r.Intn(30))
		for i := range b {
			b[i] = bytesOfValues[r.Intn(len(bytesOfValues))]
		}
		checkGiven(t, typeValueText{anyTree(r, 1+r.Intn(9), 4).nodes(), wild, wild, string(b)})
	}
}

// Promise 19: what lies behind a list's length is neither read nor written.
func TestValuesLeaveArguments(t *testing.T) {
	r := rand.New(rand.NewSource(129))
	behindTypes := []impl.TypeNode{{Kind: impl.KindU64, Up: 0}, {Kind: math.MaxInt, N: math.MinInt, Up: math.MaxInt}}
	behind := []impl.Value{{N: 1, Up: 0}, {N: math.MinInt, Text: "behind", Up: math.MaxInt}}
	for range 3000 {
		g := anyGiven(r)
		types, a, b := slices.Concat(g.types, behindTypes), slices.Concat(g.a, behind), slices.Concat(g.b, behind)
		roomy := typeValueText{types[:len(g.types)], a[:len(g.a)], b[:len(g.b)], g.s}
		if got, want := checkGiven(t, roomy), checkGiven(t, g); got != want {
			t.Fatalf("%v, %v: %s, want %s", g.types, g.a, got, want)
		}
		if !slices.Equal(types, slices.Concat(g.types, behindTypes)) || !slices.Equal(a, slices.Concat(g.a, behind)) || !slices.Equal(b, slices.Concat(g.b, behind)) {
			t.Fatalf("something behind an argument has changed: %v, %v, %v", types, a, b)
		}
	}
}

// Promise 19: answers are new memory.
func TestValuesAreNew(t *testing.T) {
	for kind, s := range map[string]string{
		"bool": "true", "u64": "18446744073709551615", "string": `"plain"`, "list<string>": `["plain","plain","a\22b"]`, "record<string,u8>": `("plain",7)`, "option<string>": `some:"plain"`, "option<u8>": "none", "variant<u8,string>": `1:"plain"`, "result<string,bool>": `ok:"plain"`, "list<bool>": "[]",
	} {
		types := typeTold(kind).nodes()
		l, ok := impl.ReadValue(types, s)
		if !ok {
			t.Fatal("meant to be read:", kind, s)
		}
		checkNewList(t, s, types, func() []impl.Value {
			back, _ := impl.ReadValue(types, s)
			return back
		})
		checkNewList(t, s, types, func() []impl.Value {
			zero, _ := impl.ZeroOf(types)
			return zero
		})
		again, _ := impl.ReadValue(types, s)
		one, _ := impl.ValueText(types, l)
		two, _ := impl.ValueText(types, l)
		if one != s || sharesBytes(s, one) || sharesBytes(one, two) {
			t.Errorf("%s: texts share memory", s)
		}
		for i, v := range l {
			if sharesBytes(s, v.Text) || sharesBytes(one, v.Text) || sharesBytes(v.Text, again[i].Text) {
				t.Errorf("%s: Text of node %d lies in other memory", s, i)
			}
			for k, w := range l {
				if k != i && sharesBytes(v.Text, w.Text) {
					t.Errorf("%s: Texts of nodes %d and %d share memory", s, i, k)
				}
			}
		}
	}
}

// Promise 19: the same call answers the same again, whatever was asked between, also at the same time.
func TestValuesKeepNothing(t *testing.T) {
	r := rand.New(rand.NewSource(130))
	var all []typeValueText
	var first []string
	for range 1000 {
		g := anyGiven(r)
		all, first = append(all, g), append(first, g.answers())
	}
	both := make(chan []string)
	for range 2 {
		go func() {
			var l []string
			for _, g := range all {
				l = append(l, g.answers())
			}
			both <- l
		}()
	}
	for range 2 {
		if again := <-both; !slices.Equal(again, first) {
			t.Error("answers differ")
		}
	}
	for i, g := range slices.Backward(all) {
		if again := g.answers(); again != first[i] {
			t.Fatalf("%s, then %s", first[i], again)
		}
	}
}
