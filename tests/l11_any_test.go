package tests

import (
	"fmt"
	"math"
	"math/rand"
	"slices"
	"strings"
	"testing"

	"loop.example/g00209/impl"
)

// typesTold: what every function of chapter 11 tells of nodes and of a text, as a text; fails where one panics, tells
// something beside a false, or writes into the nodes.
func typesTold(t *testing.T, l []impl.TypeNode, s string) string {
	t.Helper()
	defer func() {
		if r := recover(); r != nil {
			t.Fatalf("panic at %.300v, %.100q: %v", l, s, r)
		}
	}()
	kept := slices.Clone(l)
	told, good := tellAll(t, l)
	if zero := (typeAnswers{offsets: "none", flat: "none"}); !good && told != zero {
		t.Fatalf("%.300v: %+v", l, told)
	}
	back, ok := impl.ReadType(s)
	if ok != impl.GoodType(back) || !ok && len(back) > 0 {
		t.Fatalf("ReadType(%.100q) = %v, %t", s, back, ok)
	}
	if again, _ := impl.TypeText(back); ok && again != s {
		t.Fatalf("ReadType(%.100q) is told as %s", s, again)
	}
	if !slices.Equal(l, kept) {
		t.Fatalf("the argument has changed: %.300v", l)
	}
	return fmt.Sprint(told, good, back, ok)
}

// Promise 19: every function answers at any arguments.
func TestTypesAnswerAtAnything(t *testing.T) {
	lists := [][]impl.TypeNode{nil, {}, {{}}, make([]impl.TypeNode, 41), make([]impl.TypeNode, 100000), slices.Repeat([]impl.TypeNode{{Kind: 2, Up: -1}}, 100000), slices.Repeat([]impl.TypeNode{{Kind: 14, Up: 0}}, 40)}
	for _, n := range anyInts() {
		for _, m := range anyInts() {
			lists = append(lists, []impl.TypeNode{{Kind: n, N: m, Up: -1}}, []impl.TypeNode{{Kind: 2, N: n, Up: m}}, []impl.TypeNode{{Kind: n, Up: m}, {Kind: m, Up: n}},
				[]impl.TypeNode{{Kind: 14, Up: -1}, {Kind: 14, Up: n}, {Kind: 2, Up: m}}, []impl.TypeNode{{Kind: 13, Up: -1}, {Kind: n, N: m, Up: 0}})
		}
	}
	var ahead []impl.TypeNode
	for i := range 100000 {
		ahead = append(ahead, impl.TypeNode{Kind: impl.KindOption, Up: i - 1})
	}
	// Deep in itself, and round in a ring.
	lists = append(lists, ahead, ahead[:40], ahead[:9], []impl.TypeNode{{Kind: 14, Up: -1}, {Kind: 14, Up: 2}, {Kind: 14, Up: 1}}, []impl.TypeNode{{Kind: 14, Up: 1}, {Kind: 14, Up: 0}})
	texts := []string{"", "u8", "list<u8>", "<<<", ">>>", ",,,", "\x00", "\xff\xfe", text(400), text(401), text(1000000), strings.Repeat("list<", 100000), strings.Repeat("\xff", 100000), "own<" + strings.Repeat("9", 100000) + ">", "own<-9223372036854775808>", "own<9223372036854775807>"}
	for i, l := range lists {
		typesTold(t, l, texts[i%len(texts)])
	}
	for _, s := range texts {
		typesTold(t, nil, s)
	}
	r := rand.New(rand.NewSource(114))
	for range 20000 {
		x := anyTree(r, 1+r.Intn(43), 1+r.Intn(9))
		l, s := x.nodes(), x.text()
		for range r.Intn(4) {
			l, s = spoiltNodes(r, l), spoiltText(r, s)
		}
		typesTold(t, l, s)
		b := make([]byte, r.Intn(30))
		for i := range b {
			b[i] = "<>,u8list13ownrecd "[r.Intn(19)]
		}
		var wild []impl.TypeNode
		for range r.Intn(6) {
			wild = append(wild, impl.TypeNode{Kind: anyPlace(r), N: anyPlace(r), Up: anyPlace(r)})
		}
		typesTold(t, wild, string(b))
	}
}

// Promise 19: what lies behind a list's length is neither read nor written.
func TestTypesLeaveArguments(t *testing.T) {
	r := rand.New(rand.NewSource(115))
	behind := []impl.TypeNode{{Kind: impl.KindU64, Up: 0}, {Kind: impl.KindOwn, N: 1, Up: 0}, {Kind: math.MaxInt, N: math.MinInt, Up: math.MaxInt}}
	for range 3000 {
		l := anyTree(r, 1+r.Intn(40), 1+r.Intn(8)).nodes()
		if r.Intn(3) == 0 {
			l = spoiltNodes(r, l)
		}
		all := slices.Concat(l, behind)
		roomy := all[:len(l)]
		if got, want := typesTold(t, roomy, "u8"), typesTold(t, slices.Clip(l), "u8"); got != want {
			t.Fatalf("%v: %s, want %s", l, got, want)
		}
		if !slices.Equal(all, slices.Concat(l, behind)) {
			t.Fatalf("something behind the nodes has changed: %v", all)
		}
	}
}

// checkNewList: what is done to an answer is seen neither in what was given nor in the same answer told again.
func checkNewList[T comparable](t *testing.T, what string, given []impl.TypeNode, answer func() []T) {
	t.Helper()
	kept := slices.Clone(given)
	one, two := answer(), answer()
	was := slices.Clone(two)
	if len(one) == 0 {
		t.Fatalf("%s: nothing is told", what)
	}
	clear(one[:cap(one)])
	if !slices.Equal(given, kept) || !slices.Equal(two, was) || !slices.Equal(answer(), was) {
		t.Errorf("%s: an answer lies in other memory: %v, %v", what, given, two)
	}
}

// Promise 19: answers are new memory.
func TestTypesAreNew(t *testing.T) {
	for _, s := range []string{"u8", "string", "flags<9>", "list<u8>", "record<u8,u64>", "record<string>", "variant<u8,u64,f32>", "option<u16>", "option<string>", "result<record<f32,u64>,string>", "record<record<u8>,variant<f32>>"} {
		l, _ := impl.ReadType(s)
		checkNewList(t, s, l, func() []impl.TypeNode {
			back, _ := impl.ReadType(s)
			return back
		})
		checkNewList(t, s, l, func() []int {
			flat, _ := impl.FlatOf(l)
			return flat
		})
		if _, ok := impl.OffsetsOf(l); ok {
			checkNewList(t, s, l, func() []int {
				offsets, _ := impl.OffsetsOf(l)
				return offsets
			})
		}
		one, _ := impl.TypeText(l)
		two, _ := impl.TypeText(l)
		if one != s || sharesBytes(s, one) || sharesBytes(one, two) {
			t.Errorf("%s: texts share memory", s)
		}
	}
}

// nodesAndText: what the functions of chapter 11 are given.
type nodesAndText struct {
	l []impl.TypeNode
	s string
}

// answers: what every function of chapter 11 answers, as a text.
func (a nodesAndText) answers() string {
	text, ok := impl.TypeText(a.l)
	size, sized := impl.SizeOf(a.l)
	align, aligned := impl.AlignOf(a.l)
	offsets, laid := impl.OffsetsOf(a.l)
	flat, few := impl.FlatOf(a.l)
	has, told := impl.HasHandles(a.l)
	back, read := impl.ReadType(a.s)
	return fmt.Sprintln(impl.GoodType(a.l), text, ok, size, sized, align, aligned, offsets, laid, flat, few, has, told, back, read)
}

// Promise 19: the same call answers the same again, whatever was asked between, also at the same time.
func TestTypesKeepNothing(t *testing.T) {
	r := rand.New(rand.NewSource(116))
	var all []nodesAndText
	var first []string
	for range 1000 {
		x := anyTree(r, 1+r.Intn(40), 1+r.Intn(8))
		a := nodesAndText{x.nodes(), x.text()}
		if r.Intn(2) == 0 {
			a = nodesAndText{spoiltNodes(r, a.l), spoiltText(r, a.s)}
		}
		all, first = append(all, a), append(first, a.answers())
	}
	both := make(chan []string)
	for range 2 {
		go func() {
			var l []string
			for _, a := range all {
				l = append(l, a.answers())
			}
			both <- l
		}()
	}
	for range 2 {
		if again := <-both; !slices.Equal(again, first) {
			t.Error("answers differ")
		}
	}
	for i, a := range slices.Backward(all) {
		if again := a.answers(); again != first[i] {
			t.Fatalf("%s, then %s", first[i], again)
		}
	}
}
