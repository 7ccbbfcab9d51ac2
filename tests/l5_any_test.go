package tests

import (
	"fmt"
	"math/rand"
	"strings"
	"testing"

	"loop.example/g00209/impl"
)

// memoryAnswers: what every function of chapter 5 answers, as texts; fails where one panics, tells a memory that is
// not good, or one that lies in what it was given.
func memoryAnswers(t *testing.T, m impl.Memory, at int, other int, n int, x uint64) []string {
	t.Helper()
	defer func() {
		if r := recover(); r != nil {
			t.Fatalf("panic at Max %d, %d bytes, %d, %d, %d, %d: %v", m.Max, len(m.Data), at, other, n, x, r)
		}
	}()
	var l []string
	say := func(told impl.Memory, what ...any) {
		if !impl.GoodMemory(told) || sharesBytes(m.Data, told.Data) {
			t.Fatalf("Max %d, %d bytes told of Max %d, %d bytes, %d, %d, %d, %d: %v", told.Max, len(told.Data), m.Max, len(m.Data), at, other, n, x, what)
		}
		l = append(l, fmt.Sprint(told, what))
	}
	made, ok := impl.NewMemory(at, n)
	say(made, ok, impl.GoodMemory(m))
	s, code := impl.LoadBytes(m, at, n)
	if sharesBytes(m.Data, s) {
		t.Fatalf("%d bytes at %d lie in the argument", n, at)
	}
	word, wordCode := impl.LoadInt(m, at, n, x%2 == 1)
	l = append(l, fmt.Sprint(s, code, word, wordCode))
	stored, code := impl.StoreBytes(m, at, text(n&1023))
	say(stored, code)
	number, code := impl.StoreInt(m, at, n, x)
	say(number, code)
	grown, was, ok := impl.GrowMemory(m, n)
	say(grown, was, ok)
	copied, code := impl.CopyWithin(m, at, other, n)
	say(copied, code)
	filled, code := impl.FillMemory(m, at, other, n)
	say(filled, code)
	return l
}

// anyPlace: near the ends of memories, near those of ints, or anything.
func anyPlace(r *rand.Rand) int {
	switch r.Intn(3) {
	case 0:
		return r.Intn(12) - 2
	case 1:
		return 256*r.Intn(9) + r.Intn(5) - 2
	}
	return int(anyWord(r))
}

// Promise 19: every function answers at any arguments, with a good memory that is new.
func TestMemoriesAnswerAtAnything(t *testing.T) {
	memories := append(badMemories(), impl.Memory{}, memoryOf(1, 1), memoryOf(8, 8), impl.Memory{Max: 8, Data: strings.Repeat("\xff", 1<<20)})
	for _, m := range memories {
		for _, at := range anyInts() {
			for _, other := range anyInts() {
				for _, n := range anyInts() {
					memoryAnswers(t, m, at, other, n, uint64(at))
				}
			}
		}
	}
	r := rand.New(rand.NewSource(9))
	for range 20000 {
		m := anyMemory(r)
		if r.Intn(8) == 0 {
			m.Max = r.Intn(12) - 2
		}
		memoryAnswers(t, m, anyPlace(r), anyPlace(r), anyPlace(r), anyWord(r))
	}
}

// Promise 19: what is told is new memory also where nothing has changed; of the same call it is the same again.
func TestMemoriesKeepNothing(t *testing.T) {
	m := memoryOf(2, 3)
	kept := strings.Clone(m.Data)
	r := rand.New(rand.NewSource(10))
	for range 2000 {
		at, other, n, x := anyPlace(r), anyPlace(r), anyPlace(r), anyWord(r)
		first := memoryAnswers(t, m, at, other, n, x)
		memoryAnswers(t, memoryOf(1, 8), other, at, n&7, x+1)
		for i, told := range memoryAnswers(t, m, at, other, n, x) {
			if told != first[i] {
				t.Fatalf("answer %d at %d, %d, %d, %d was another one", i, at, other, n, x)
			}
		}
		if m.Data != kept || m.Max != 3 {
			t.Fatal("the argument has changed")
		}
	}
}
