package tests

import (
	"fmt"
	"math"
	"math/rand"
	"slices"
	"strings"
	"testing"

	"loop.example/g00209/impl"
)

// lowering: what the functions of chapter 13 are given.
type lowering struct {
	heap  impl.Heap
	types []impl.TypeNode
	l     []impl.Value
	s     string
	code  int
	at    int
	n     int
}

func (g lowering) String() string {
	return fmt.Sprintf("%s, %s, %s, %.50q, %d, %d, %d", heapText(g.heap), short(g.types), short(g.l), g.s, g.code, g.at, g.n)
}

// answers: what every function of chapter 13 answers, as a text; fails where a heap is told that is none, or something lies
// in what was given.
func (g lowering) answers(t *testing.T) string {
	t.Helper()
	var told []string
	say := func(h impl.Heap, what ...any) {
		if !impl.GoodHeap(h) || sharesBytes(g.heap.Memory.Data, h.Memory.Data) {
			t.Fatalf("%s told of %s: %v", heapText(h), g, what)
		}
		told = append(told, fmt.Sprint(h, what))
	}
	taken, place, code := impl.TakeRoom(g.heap, g.at, g.n)
	say(taken, place, code)
	taken, place, code = impl.TakeRoom(g.heap, 1<<(g.at&3), g.n)
	say(taken, place, code)
	laid, place, code := impl.LowerValue(g.heap, g.types, g.l, g.code)
	say(laid, place, code)
	withText, place, count, code := impl.LowerText(g.heap, g.s, g.code)
	say(withText, place, count, code)
	used, ok := impl.UsedBy(g.types, g.l, g.code)
	values, code := impl.LiftValue(g.heap.Memory, g.types, g.at, g.code)
	s, textCode := impl.LiftText(g.heap.Memory, g.at, g.n, g.code)
	if code != impl.LowerOk && len(values) > 0 || textCode != impl.LowerOk && s != "" || !ok && used != 0 {
		t.Fatalf("%s: %v, %d, %q, %d, %d, %t", g, values, code, s, textCode, used, ok)
	}
	for i, v := range values {
		// Texts of one byte the language itself keeps in one place.
		shared := func(w impl.Value) bool { return len(v.Text) > 1 && sharesBytes(w.Text, v.Text) }
		if sharesBytes(g.heap.Memory.Data, v.Text) || slices.ContainsFunc(values[:i], shared) {
			t.Fatalf("%s: the Text of node %d lies in other memory", g, i)
		}
	}
	if sharesBytes(g.heap.Memory.Data, s) {
		t.Fatalf("%s: a text lies in the argument", g)
	}
	return fmt.Sprint(told, impl.GoodHeap(g.heap), used, ok, values, code, s, textCode)
}

// checkLowering: they answer, and write into nothing.
func checkLowering(t *testing.T, g lowering) string {
	t.Helper()
	defer func() {
		if r := recover(); r != nil {
			t.Fatalf("panic at %s: %v", g, r)
		}
	}()
	types, l, data, s := slices.Clone(g.types), slices.Clone(g.l), strings.Clone(g.heap.Memory.Data), strings.Clone(g.s)
	told := g.answers(t)
	if !slices.Equal(g.types, types) || !slices.Equal(g.l, l) || g.heap.Memory.Data != data || g.s != s {
		t.Fatalf("an argument has changed: %s", g)
	}
	return told
}

// anyLowering: a value in a heap at a place, mostly, with something beside it that may be anything.
func anyLowering(r *rand.Rand) lowering {
	x := anyTree(r, 1+r.Intn(20), 1+r.Intn(8))
	if r.Intn(8) > 0 {
		x = handless(x)
	}
	v := anyValue(r, x, 1+r.Intn(40))
	g := lowering{anyHeap(r), x.nodes(), v.nodes(), someStrings()[r.Intn(12)], threeCodes[r.Intn(3)], r.Intn(40), r.Intn(300)}
	if r.Intn(2) == 0 {
		g.heap, g.at, _ = impl.LowerValue(g.heap, g.types, g.l, g.code)
	}
	for range r.Intn(4) {
		switch r.Intn(8) {
		case 0:
			g.heap.Next = anyPlace(r)
		case 1:
			g.heap.Memory.Max = r.Intn(12) - 2
		case 2:
			g.types = spoiltNodes(r, g.types)
		case 3:
			g.l = spoiltValues(r, g.l)
		case 4:
			g.s = anyText(r)
		case 5:
			g.code = []int{anyPlace(r), r.Intn(6) - 1}[r.Intn(2)]
		case 6:
			g.at = anyPlace(r)
		default:
			g.n = anyPlace(r)
		}
	}
	return g
}

// Promise 19: every function answers at any arguments, with a good heap that is new.
func TestLoweringAnswersAtAnything(t *testing.T) {
	heaps := append(badHeaps(), impl.Heap{}, heapOf(1, 0), heapOf(1, 256), heapOf(8, 3), impl.Heap{Memory: impl.Memory{Max: 8, Data: strings.Repeat("\xff", 1<<20)}, Next: 1 << 19})
	types := [][]impl.TypeNode{nil, {}, {{}}, make([]impl.TypeNode, 100000), typeTold("string").nodes(), typeTold("list<u8>").nodes(), typeTold("list<list<list<string>>>").nodes(), within("option", 7, tree("u64")).nodes(), typeTold("record<u8,list<s64>>").nodes(), typeTold("result<flags<32>,enum<300>>").nodes(), typeTold("own<3>").nodes(), within("record", 7, tree("f32")).nodes(), within("list", 7, tree("char")).nodes()}
	values := [][]impl.Value{nil, {}, {{}}, {{Up: -1}}, make([]impl.Value, 101), make([]impl.Value, 100000), {{Text: strings.Repeat("\xff", 1<<20), Up: -1}}, {{Text: text(200), Up: -1}}, {{Up: 1}, {Up: 0}}, {{Up: -1}, {Up: 0}}, {{N: 1, Up: -1}, {N: 7, Up: 0}}}
	texts := []string{"", "a", "\xff", text(200), text(201), text(1 << 20), "\u20ac"}
	ints := append(anyInts(), 8, 16, 256, 257, 1<<31, 1<<31+1, 1<<32-1, 1<<32)
	for i, h := range heaps {
		for k, at := range ints {
			for j, n := range ints {
				if (i+j+k)%4 > 0 {
					continue
				}
				checkLowering(t, lowering{h, types[(i+k)%len(types)], values[k%len(values)], texts[i%5], 1 + (i+k)%3, at, n})
			}
			checkLowering(t, lowering{h, types[k%len(types)], values[i%len(values)], texts[k%len(texts)], at, 0, 0})
		}
	}
	for _, nodes := range types {
		for _, l := range values {
			for _, code := range threeCodes {
				checkLowering(t, lowering{heapOf(8, 3), nodes, l, "a", code, 8, 2})
			}
		}
	}
	r := rand.New(rand.NewSource(139))
	for range 20000 {
		checkLowering(t, anyLowering(r))
	}
}

// Promise 19: what lies behind a list's length is neither read nor written.
func TestLoweringLeavesArguments(t *testing.T) {
	r := rand.New(rand.NewSource(140))
	behindTypes := []impl.TypeNode{{Kind: impl.KindU64, Up: 0}, {Kind: math.MaxInt, N: math.MinInt, Up: math.MaxInt}}
	behind := []impl.Value{{N: 1, Up: 0}, {N: math.MinInt, Text: "behind", Up: math.MaxInt}}
	for range 3000 {
		g := anyLowering(r)
		types, l := slices.Concat(g.types, behindTypes), slices.Concat(g.l, behind)
		roomy := g
		roomy.types, roomy.l = types[:len(g.types)], l[:len(g.l)]
		if got, want := checkLowering(t, roomy), checkLowering(t, g); got != want {
			t.Fatalf("%s: %.500q, want %.500q", g, got, want)
		}
		if !slices.Equal(types, slices.Concat(g.types, behindTypes)) || !slices.Equal(l, slices.Concat(g.l, behind)) {
			t.Fatalf("something behind an argument has changed: %v, %v", types, l)
		}
	}
}

// Promise 19: answers are new memory, also where nothing has changed.
func TestLoweringIsNew(t *testing.T) {
	for kind, s := range map[string]string{
		"u8": "7", "string": `"plain"`, "list<string>": `["plain","plain","\e2\82\ac"]`, "record<string,u8>": `("plain",7)`, "option<string>": `some:"plain"`, "variant<u8,list<string>>": `1:["plain","plain"]`, "list<bool>": "[]",
	} {
		types := typeTold(kind).nodes()
		l, _ := impl.ReadValue(types, s)
		for _, code := range threeCodes {
			for _, next := range []int{0, 256} {
				h := heapOf(1, next)
				one, at, fault := impl.LowerValue(h, types, l, code)
				two, _, _ := impl.LowerValue(h, types, l, code)
				if (fault == impl.LowerOk) != (next == 0) || sharesBytes(h.Memory.Data, one.Memory.Data) || sharesBytes(one.Memory.Data, two.Memory.Data) {
					t.Errorf("%s in code %d from %d on: %d, or the heap is not new", kind, code, next, fault)
				}
				if fault != impl.LowerOk {
					continue
				}
				checkNewList(t, s, types, func() []impl.Value {
					back, _ := impl.LiftValue(one.Memory, types, at, code)
					return back
				})
				back, _ := impl.LiftValue(one.Memory, types, at, code)
				again, _ := impl.LiftValue(one.Memory, types, at, code)
				for i, v := range back {
					if sharesBytes(l[i].Text, v.Text) || sharesBytes(again[i].Text, v.Text) || sharesBytes(one.Memory.Data, v.Text) {
						t.Errorf("%s in code %d: the Text of node %d lies in other memory", kind, code, i)
					}
				}
			}
		}
	}
	h := heapOf(1, 5)
	for _, size := range []int{-1, 0, 5, 300} {
		one, _, _ := impl.TakeRoom(h, 4, size)
		two, _, _ := impl.TakeRoom(h, 4, size)
		if one.Memory.Data != h.Memory.Data || sharesBytes(h.Memory.Data, one.Memory.Data) || sharesBytes(one.Memory.Data, two.Memory.Data) {
			t.Errorf("TakeRoom of %d: the heap is not new", size)
		}
	}
	for _, code := range []int{0, 1, 2, 3} {
		one, at, count, fault := impl.LowerText(h, "plain", code)
		two, _, _, _ := impl.LowerText(h, "plain", code)
		if sharesBytes(h.Memory.Data, one.Memory.Data) || sharesBytes(one.Memory.Data, two.Memory.Data) {
			t.Errorf("LowerText in code %d: the heap is not new", code)
		}
		back, _ := impl.LiftText(one.Memory, at, count, code)
		again, _ := impl.LiftText(one.Memory, at, count, code)
		if (back == "plain") != (fault == impl.LowerOk) || sharesBytes(one.Memory.Data, back) || sharesBytes(again, back) {
			t.Errorf("LiftText in code %d: %q, or it is not new", code, back)
		}
	}
}

// Promise 19: the same call answers the same again, whatever was asked between, also at the same time.
func TestLoweringKeepsNothing(t *testing.T) {
	r := rand.New(rand.NewSource(141))
	var all []lowering
	var first []string
	for range 1000 {
		g := anyLowering(r)
		all, first = append(all, g), append(first, checkLowering(t, g))
	}
	each := make(chan []string)
	for range 2 {
		go func() {
			var l []string
			for _, g := range all {
				// By the same functions, but none that ends the test: that may be done by its own goroutine alone.
				h, at, code := impl.LowerValue(g.heap, g.types, g.l, g.code)
				values, lifted := impl.LiftValue(h.Memory, g.types, at, g.code)
				used, ok := impl.UsedBy(g.types, g.l, g.code)
				l = append(l, fmt.Sprint(h, at, code, values, lifted, used, ok))
			}
			each <- l
		}()
	}
	if one, two := <-each, <-each; !slices.Equal(one, two) {
		t.Error("answers differ")
	}
	for i, g := range slices.Backward(all) {
		if again := checkLowering(t, g); again != first[i] {
			t.Fatalf("%.500q, then %.500q", first[i], again)
		}
	}
}
