package tests

import (
	"fmt"
	"math"
	"math/rand"
	"slices"
	"strings"
	"testing"

	"loop.example/g00209/impl"
)

// passing: what the functions of chapter 17 are given.
type passing struct {
	from  impl.Part
	to    impl.Part
	types []impl.TypeNode
	at    int
	words []impl.Word
	a     impl.Signature
	b     impl.Signature
	args  []int
}

func (g passing) String() string {
	return fmt.Sprintf("from %s to %s, %s, %d, %s, %s, %s, %s", partText(g.from), partText(g.to), short(g.types), g.at, wordsText(g.words), short(g.a), short(g.b), short(g.args))
}

// copied: the same in memory of its own.
func (g passing) copied() passing {
	own := g
	for _, p := range []*impl.Part{&own.from, &own.to} {
		p.Name, p.Heap.Memory.Data = strings.Clone(p.Name), strings.Clone(p.Heap.Memory.Data)
	}
	for _, s := range []*impl.Signature{&own.a, &own.b} {
		s.Params, s.Result = slices.Clone(s.Params), strings.Clone(s.Result)
		for i, text := range s.Params {
			s.Params[i] = strings.Clone(text)
		}
	}
	own.types, own.words, own.args = slices.Clone(g.types), slices.Clone(g.words), slices.Clone(g.args)
	return own
}

func (g passing) isAs(other passing) bool {
	same := func(a impl.Signature, b impl.Signature) bool {
		return slices.Equal(a.Params, b.Params) && a.Result == b.Result
	}
	return g.from == other.from && g.to == other.to && slices.Equal(g.types, other.types) && g.at == other.at && slices.Equal(g.words, other.words) && same(g.a, other.a) && same(g.b, other.b) && slices.Equal(g.args, other.args)
}

// passAnswers: what every function of chapter 17 answers.
type passAnswers struct {
	goodFrom, goodTo, goodA, goodB bool
	parts                          [5]impl.Part
	codes                          [5]int
	place                          int
	words                          []impl.Word
	places                         []int
	may, ok                        bool
}

func (g passing) answers() passAnswers {
	var a passAnswers
	a.goodFrom, a.goodTo, a.goodA, a.goodB = impl.GoodPart(g.from), impl.GoodPart(g.to), impl.GoodSignature(g.a), impl.GoodSignature(g.b)
	a.parts[0], a.place, a.codes[0] = impl.PassValue(g.from, g.to, g.types, g.at)
	a.parts[1], a.words, a.codes[1] = impl.PassWords(g.from, g.to, g.types, g.words)
	a.parts[2], a.codes[2] = impl.EnterPart(g.to)
	a.parts[3], a.codes[3] = impl.ExitPart(g.to)
	a.parts[4], a.places, a.codes[4] = impl.CallThrough(g.from, g.to, g.a, g.args)
	a.may, a.ok = impl.SubtypeOf(g.a, g.b)
	return a
}

// checkPassing: they answer what they must, in new memory, and write into nothing.
func checkPassing(t *testing.T, g passing) string {
	t.Helper()
	defer func() {
		if r := recover(); r != nil {
			t.Fatalf("panic at %s: %v", g, r)
		}
	}()
	kept := g.copied()
	a := g.answers()
	if !g.isAs(kept) {
		t.Fatalf("%s has become %s", kept, g)
	}
	want := passAnswers{goodFrom: wantPart(g.from), goodTo: wantPart(g.to), goodA: wantSignature(g.a), goodB: wantSignature(g.b)}
	want.parts[0], want.place, want.codes[0] = wantPassed(g.from, g.to, g.types, g.at)
	want.parts[1], want.words, want.codes[1] = wantWordsPassed(g.from, g.to, g.types, g.words)
	want.parts[2], want.codes[2] = wantEntered(g.to)
	want.parts[3], want.codes[3] = wantExited(g.to)
	want.parts[4], want.places, want.codes[4] = wantThrough(g.from, g.to, g.a, g.args)
	want.may, want.ok = wantSubtype(g.a, g.b)
	if fmt.Sprint(a) != fmt.Sprint(want) {
		t.Fatalf("%s: %.2000q, want %.2000q", g, fmt.Sprint(a), fmt.Sprint(want))
	}
	checkOwnMemory(t, g, a)
	return fmt.Sprint(a)
}

// checkOwnMemory: no text that is answered lies in what was given, or in another answer.
func checkOwnMemory(t *testing.T, g passing, a passAnswers) {
	t.Helper()
	texts := []string{g.from.Name, g.to.Name, g.from.Heap.Memory.Data, g.to.Heap.Memory.Data}
	for i, p := range a.parts {
		for _, s := range []string{p.Name, p.Heap.Memory.Data} {
			if slices.ContainsFunc(texts, func(other string) bool { return sharesBytes(other, s) || sharesBytes(s, other) }) {
				t.Fatalf("%s: answer %d, %s, lies in other memory", g, i, partText(p))
			}
			texts = append(texts, s)
		}
	}
}

// anyPassing: a call mostly as it may be, with something in it that may be anything.
func anyPassing(r *rand.Rand) passing {
	c := anyLaidFor(r, anyPart(r), r.Intn(7))
	g := passing{from: c.from, to: anyPart(r), a: c.sign, b: c.sign, args: c.args}
	x := anyFew(r, 12, 6)
	var also bool
	l := anyValue(r, x, 12).nodes()
	if g.types = x.nodes(); r.Intn(8) == 0 {
		g.types = anyTree(r, 12, 6).nodes()
	}
	if g.from, g.at, also = laidIn(g.from, x, l); !also {
		g.at = r.Intn(300)
	}
	if g.from, g.words, also = wordedIn(g.from, x, l); !also {
		g.words = wordsIn(x, make([]uint64, len(wantFlat(x))))
	}
	if r.Intn(2) == 0 {
		g.b.Params = slices.Clone(c.sign.Params)
		g.b = spoiltSignature(r, g.b)
	}
	for range r.Intn(3) {
		g = spoiltPassing(r, g)
	}
	return g
}

func spoiltPassing(r *rand.Rand, g passing) passing {
	switch r.Intn(8) {
	case 0:
		g.from = spoiltPart(r, g.from)
	case 1:
		g.to = spoiltPart(r, g.to)
	case 2:
		g.types = spoiltNodes(r, g.types)
	case 3:
		g.at = anyPlace(r)
	case 4:
		g.words = spoiltWords(r, g.words)
	case 5:
		g.a = spoiltSignature(r, g.a)
	case 6:
		g.args = spoiltNumbers(r, slices.Clone(g.args))
	default:
		g.to, g.from = g.from, g.to
	}
	return g
}

func spoiltPart(r *rand.Rand, p impl.Part) impl.Part {
	switch r.Intn(6) {
	case 0:
		p.Name = []string{"", p.Name + p.Name, "A", anyText(r), p.Name + " "}[r.Intn(5)]
	case 1:
		p.Heap.Next = anyPlace(r)
	case 2:
		p.Heap.Memory.Max = r.Intn(12) - 2
	case 3:
		p.Code = []int{anyPlace(r), r.Intn(6) - 1}[r.Intn(2)]
	case 4:
		p.Inside = !p.Inside
	default:
		p.Leave = !p.Leave
	}
	return p
}

// spoiltSignature: one thing in it changed, mostly by little.
func spoiltSignature(r *rand.Rand, s impl.Signature) impl.Signature {
	s.Params = slices.Clone(s.Params)
	at := r.Intn(len(s.Params) + 1)
	text := []string{"", "u8", "own<1>", "x", anyPassable(r, 6).text()}[r.Intn(5)]
	switch {
	case r.Intn(4) == 0:
		s.Result = text
	case at == len(s.Params) || r.Intn(3) == 0:
		s.Params = slices.Insert(s.Params, at, text)
	case r.Intn(2) == 0:
		s.Params = slices.Delete(s.Params, at, at+1)
	case r.Intn(2) == 0:
		s.Params[at] = spoiltText(r, s.Params[at])
	default:
		s.Params[at] = text
	}
	return s
}

// Promise 19: every function answers at any arguments.
func TestPassingAnswersAtAnything(t *testing.T) {
	parts := append(badParts(), impl.Part{}, partOf(heapOf(1, 0), impl.CodeUtf8), partOf(heapOf(8, 2048), impl.CodeUtf16), impl.Part{Name: "x", Code: impl.CodeLatin, Inside: true}, partOf(impl.Heap{Memory: impl.Memory{Max: 8, Data: strings.Repeat("\xff", 1<<20)}, Next: 1 << 19}, impl.CodeUtf8), partOf(filledHeap(8, 0xff, 0), impl.CodeUtf8), partOf(filledHeap(8, 0, 7), impl.CodeLatin))
	types := append(noTypes(), make([]impl.TypeNode, 10000), typeTold("string").nodes(), typeTold("list<u8>").nodes(), typeTold("list<list<list<string>>>").nodes(), within("option", 7, tree("u64")).nodes(), typeTold("result<flags<32>,enum<300>>").nodes(), typeTold("own<3>").nodes(), within("list", 7, tree("char")).nodes(), ofWords(16).nodes(), ofWordsOver(17).nodes())
	rows := [][]impl.Word{nil, {}, {{}}, {{Type: math.MaxInt, Bits: math.MaxUint64}}, wordsOf("i:0"), wordsOf("i:-1 i:-1"), wordsOf("I:-1"), {{Type: impl.TypeF32, Bits: 1 << 32}}, make([]impl.Word, 10000), slices.Repeat(wordsOf("i:-1"), 16)}
	signs := []impl.Signature{{}, {Params: []string{}}, {Params: []string{""}}, {Params: make([]string, 1000)}, {Params: slices.Repeat([]string{"u8"}, 1000)}, signatureOf("u8", ""), signatureOf("string list<string>", "u8"), signatureOf("u8 u8 u8 u8 u8 u8", "own<1>"), {Params: []string{strings.Repeat("list<", 1000), "\xff"}, Result: strings.Repeat("x", 1<<16)}, {Result: "list<u8"}}
	ints := append(anyInts(), 8, 255, 256, 257, 1<<31, 1<<32-1, 1<<32)
	args := [][]int{nil, {}, {0}, {-1}, {math.MaxInt, math.MinInt}, make([]int, 6), make([]int, 10000), {0, 1 << 32}}
	for i, p := range parts {
		for k, other := range parts {
			for n := range 2 {
				checkPassing(t, passing{p, other, types[(i+k+n)%len(types)], ints[(i+k*n)%len(ints)], rows[(k+n)%len(rows)], signs[(i+n)%len(signs)], signs[(k+n)%len(signs)], args[(i+k+n)%len(args)]})
			}
		}
	}
	good := parts[len(parts)-2:]
	for i, nodes := range types {
		for k, at := range ints {
			for n, row := range rows {
				if (i+k+n)%3 > 0 {
					continue
				}
				checkPassing(t, passing{good[n%2], good[(k+n)%2], nodes, at, row, signs[(i+n)%len(signs)], signs[(k+n)%len(signs)], args[(i+k+n)%len(args)]})
			}
		}
	}
	r := rand.New(rand.NewSource(221))
	var codes [5][5]int
	for range 10000 {
		g := anyPassing(r)
		checkPassing(t, g)
		for i, code := range g.answers().codes {
			codes[i][code]++
		}
	}
	for i, want := range [][]int{{0, 1, 2, 3}, {0, 1, 2, 3}, {0, 1, 4}, {0, 1, 4}, {0, 1, 2, 3, 4}} {
		for _, code := range want {
			if codes[i][code] < 100 {
				t.Errorf("too few of code %d: %v", code, codes[i])
			}
		}
	}
}

// Promise 19: what lies behind a list's length is neither read nor written.
func TestPassingLeavesArguments(t *testing.T) {
	r := rand.New(rand.NewSource(222))
	behindTypes := []impl.TypeNode{{Kind: impl.KindU64, Up: 0}, {Kind: math.MaxInt, N: math.MinInt, Up: math.MaxInt}}
	behindWords := []impl.Word{{Type: impl.TypeI32, Bits: 1}, {Type: math.MinInt, Bits: math.MaxUint64}}
	behindParams, behindArgs := []string{"u8", "behind"}, []int{0, math.MinInt}
	for range 3000 {
		g := anyPassing(r)
		types, words, args := slices.Concat(g.types, behindTypes), slices.Concat(g.words, behindWords), slices.Concat(g.args, behindArgs)
		params, others := slices.Concat(g.a.Params, behindParams), slices.Concat(g.b.Params, behindParams)
		roomy := g
		roomy.types, roomy.words, roomy.args = types[:len(g.types)], words[:len(g.words)], args[:len(g.args)]
		roomy.a.Params, roomy.b.Params = params[:len(g.a.Params)], others[:len(g.b.Params)]
		if got, want := checkPassing(t, roomy), checkPassing(t, g); got != want {
			t.Fatalf("%s: %.500q, want %.500q", g, got, want)
		}
		if !slices.Equal(types, slices.Concat(g.types, behindTypes)) || !slices.Equal(words, slices.Concat(g.words, behindWords)) || !slices.Equal(args, slices.Concat(g.args, behindArgs)) || !slices.Equal(params, slices.Concat(g.a.Params, behindParams)) || !slices.Equal(others, slices.Concat(g.b.Params, behindParams)) {
			t.Fatalf("something behind an argument of %s has changed", g)
		}
	}
}

// Promise 19: answers are new memory, also where nothing has changed: what is written into one is seen in neither the
// arguments nor another answer.
func TestPassingIsNew(t *testing.T) {
	r := rand.New(rand.NewSource(223))
	lists := 0
	for range 3000 {
		g := anyPassing(r)
		one, two, kept := g.answers(), g.answers(), g.copied()
		for i, p := range two.parts {
			for _, other := range one.parts {
				if sharesBytes(p.Name, other.Name) || sharesBytes(p.Heap.Memory.Data, other.Heap.Memory.Data) {
					t.Fatalf("%s: answer %d lies in another one", g, i)
				}
			}
		}
		want := fmt.Sprint(two)
		lists += len(one.words) + len(one.places)
		spoilRow(one.words, impl.Word{Type: -7})
		spoilRow(one.places, -7)
		if !g.isAs(kept) || fmt.Sprint(two) != want || fmt.Sprint(g.answers()) != want {
			t.Fatalf("%s: an answer lies in other memory", g)
		}
		// Nor does it lie in the arguments.
		spoilRow(g.words, impl.Word{Type: -7})
		spoilRow(g.args, -7)
		spoilRow(g.types, impl.TypeNode{Kind: -7})
		if fmt.Sprint(two) != want {
			t.Fatalf("%s: an answer lies in the arguments", g)
		}
	}
	if lists < 1000 {
		t.Error("too few lists were answered:", lists)
	}
	// Names and bytes are new beside each code too.
	for _, p := range []impl.Part{partOf(heapOf(1, 5), impl.CodeUtf8), {Name: "abc", Heap: heapOf(2, 5), Code: impl.CodeLatin, Inside: true}} {
		p.Name = strings.Clone(p.Name)
		for _, at := range []int{-1, 0, 256} {
			g := passing{from: p, to: p, types: tree("u64").nodes(), at: at, words: wordsOf("I:1")[:min(1, at+1)], a: signatureOf("u64", ""), args: []int{at}}
			checkPassing(t, g)
		}
	}
}

// Promise 19: the same call answers the same again, whatever was asked between, also at the same time.
func TestPassingKeepsNothing(t *testing.T) {
	r := rand.New(rand.NewSource(224))
	var all []passing
	var first []string
	for range 1000 {
		g := anyPassing(r)
		all, first = append(all, g), append(first, checkPassing(t, g))
	}
	each := make(chan []string)
	for range 2 {
		go func() {
			var l []string
			for _, g := range all {
				l = append(l, fmt.Sprint(g.answers()))
			}
			each <- l
		}()
	}
	for range 2 {
		if again := <-each; !slices.Equal(again, first) {
			t.Error("answers differ")
		}
	}
	for i, g := range slices.Backward(all) {
		if again := checkPassing(t, g); again != first[i] {
			t.Fatalf("%.500q, then %.500q", first[i], again)
		}
	}
}
