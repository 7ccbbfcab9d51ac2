package tests

import (
	"fmt"
	"math"
	"math/rand"
	"slices"
	"strings"
	"testing"

	"loop.example/g00209/impl"
)

// codeAnswers: what every function of chapter 6 answers, as texts; fails where one panics, answers something beside a
// false, or writes into what it was given.
func codeAnswers(t *testing.T, l []impl.Ins, s string) []string {
	t.Helper()
	defer func() {
		if r := recover(); r != nil {
			t.Fatalf("panic at %.60v, %.40x: %v", l, s, r)
		}
	}()
	kept := slices.Clone(l)
	var told []string
	for _, x := range l[:min(len(l), 300)] {
		told = append(told, fmt.Sprint(impl.GoodIns(x)))
	}
	b, coded := impl.CodeBytes(l)
	if !coded && b != "" || coded && len(b) < len(l) {
		t.Fatalf("CodeBytes(%v) = %x, %t", l, b, coded)
	}
	back, read := impl.ReadCode(s)
	if !read && len(back) != 0 || len(back) > impl.MaxBody || len(back) > len(s) {
		t.Fatalf("ReadCode(%x) = %v, %t", s, back, read)
	}
	ends, isBody := impl.EndsOf(l)
	if isBody && len(ends) != len(l) || !isBody && len(ends) != 0 || isBody && !coded {
		t.Fatalf("EndsOf(%v) = %v, %t", l, ends, isBody)
	}
	deep, ok := impl.DeepestOf(l)
	if ok != isBody || isBody && (deep < 1 || deep > len(l)) || !isBody && deep != 0 {
		t.Fatalf("DeepestOf(%v) = %d, %t", l, deep, ok)
	}
	if !slices.Equal(l, kept) {
		t.Fatal("the argument has changed:", l)
	}
	return append(told, fmt.Sprint(b, coded, back, read, ends, isBody, deep))
}

// anyBadIns: ops and A near to good ones, or anything.
func anyBadIns(r *rand.Rand) impl.Ins {
	x := anyIns(r)
	switch r.Intn(6) {
	case 0:
		x.Op = int(anyWord(r))
	case 1:
		x.A = int(anyWord(r))
	case 2:
		x = impl.Ins{Op: r.Intn(260) - 2, A: edgeA()[r.Intn(len(edgeA()))]}
	}
	return x
}

// Promise 19: every function answers at any arguments.
func TestCodeAnswersAtAnything(t *testing.T) {
	lists := [][]impl.Ins{nil, {}, {{}}, {{Op: 11}}, {{Op: math.MaxInt, A: math.MaxInt}}, {{Op: math.MinInt, A: math.MinInt}}, {{Op: 11}, {Op: math.MinInt}},
		make([]impl.Ins, 100000), slices.Repeat([]impl.Ins{{Op: 11}}, 200), slices.Repeat([]impl.Ins{{Op: 2, A: 64}}, 200), slices.Repeat([]impl.Ins{{Op: 5}}, 200)}
	texts := []string{"", "\x00", "\x02", "\x41", "\x43\x00", "\xff", strings.Repeat("\x00", 100000), strings.Repeat("\x41\x00", 100000), strings.Repeat("\x80", 4000), text(4000)}
	for _, l := range lists {
		for _, s := range texts {
			codeAnswers(t, l, s)
		}
	}
	for _, op := range edgeOps() {
		for _, a := range edgeA() {
			codeAnswers(t, []impl.Ins{{Op: op, A: a}, {Op: impl.InEnd}}, string([]byte{byte(op), byte(a), byte(a >> 8)}))
		}
	}
	r := rand.New(rand.NewSource(65))
	for range 20000 {
		var l []impl.Ins
		for range r.Intn(8) {
			l = append(l, anyBadIns(r))
		}
		s := make([]byte, r.Intn(12))
		for i := range s {
			s[i] = byte(r.Intn(256)) >> r.Intn(8)
		}
		codeAnswers(t, l, string(s))
	}
}

// Promise 19: what lies behind a list's length is neither read nor written.
func TestCodeLeavesArguments(t *testing.T) {
	for _, letters := range []string{"bn..", "ie..", "n.", "be..", "b.", "."} {
		for _, behind := range [][]impl.Ins{{{Op: -7, A: 9}, {Op: 300}}, {{Op: impl.InEnd}, {Op: impl.InEnd}}} {
			l := codeOfLetters(letters)
			all := slices.Concat(l, behind)
			kept := slices.Clone(all)
			if got, want := codeAnswers(t, all[:len(l)], "\x0b"), codeAnswers(t, l, "\x0b"); !slices.Equal(got, want) {
				t.Errorf("%s: %v, want %v", letters, got, want)
			}
			if !slices.Equal(all, kept) {
				t.Errorf("%s: argument changed: %v", letters, all)
			}
		}
	}
}

// Promise 19: answers are new: what is done to one is not seen in another one, nor in what was given.
func TestCodeAnswersAreNew(t *testing.T) {
	l := codeOfLetters("bn.ie..")
	s := wantCode(l)
	first, _ := impl.ReadCode(s)
	clear(first)
	if back, ok := impl.ReadCode(s); !slices.Equal(back, l) || !ok {
		t.Error(back, ok)
	}
	ends, _ := impl.EndsOf(l)
	clear(ends)
	if ends, ok := impl.EndsOf(l); !slices.Equal(ends, []int{2, 2, 2, 5, 5, 5, 6}) || !ok {
		t.Error(ends, ok)
	}
}

// Promise 19: the same call answers the same again, whatever was asked between.
func TestCodeKeepsNothing(t *testing.T) {
	r := rand.New(rand.NewSource(66))
	for range 2000 {
		l := codeOfLetters(anyRow(r, r.Intn(30)) + ".")
		s := wantCode(anyCode(r, 10))
		first := codeAnswers(t, l, s)
		codeAnswers(t, []impl.Ins{anyBadIns(r), {Op: impl.InEnd}}, s+"\x02")
		if again := codeAnswers(t, l, s); !slices.Equal(first, again) {
			t.Fatalf("%v, then %v", first, again)
		}
	}
}
