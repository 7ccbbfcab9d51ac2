package tests

import (
	"fmt"
	"math"
	"math/rand"
	"slices"
	"testing"

	"loop.example/g00209/impl"
)

// handling: what the functions of chapter 15 are given.
type handling struct {
	x        impl.Table
	h        impl.Handle
	at       int
	resource int
}

// steps: each function that asks of a table and of something beside it.
func (g handling) steps() []handleStep {
	var l []handleStep
	for _, do := range append(ofAHandle, doNew) {
		l = append(l, handleStep{do, g.at, g.resource, g.h})
	}
	return l
}

func (g handling) answers() string {
	n, ok := impl.CountUsed(g.x, g.resource)
	text := fmt.Sprintln(impl.GoodTable(g.x), n, ok)
	for _, s := range g.steps() {
		text += fmt.Sprintln(s.answer(g.x))
	}
	return text
}

// checkHandling: they answer what they must, and write into nothing.
func checkHandling(t *testing.T, g handling) string {
	t.Helper()
	defer func() {
		if r := recover(); r != nil {
			t.Fatalf("panic at %s, %s, %d, %d: %v", tableText(g.x), handleText(g.h), g.at, g.resource, r)
		}
	}()
	checkGoodTable(t, g.x, wantTable(g.x))
	checkCount(t, g.x, g.resource)
	for _, s := range g.steps() {
		if a := checkStep(t, g.x, s); !impl.GoodTable(a.x) {
			t.Fatalf("%s, %s: %s: a table that is not good", tableText(g.x), s, a)
		}
	}
	return g.answers()
}

// spoiltHandle: one field changed into anything.
func spoiltHandle(r *rand.Rand, h impl.Handle) impl.Handle {
	n := anyInts()[r.Intn(len(anyInts()))]
	switch r.Intn(6) {
	case 0:
		h.Used = !h.Used
	case 1:
		h.Resource = n
	case 2:
		h.Rep = n
	case 3:
		h.Own = !h.Own
	case 4:
		h.Lends = n
	default:
		h.Scope = n
	}
	return h
}

// spoiltTable: one thing in it changed into anything.
func spoiltTable(r *rand.Rand, x impl.Table) impl.Table {
	x = copyOfTable(x)
	slot, free := r.Intn(len(x.Slots)+1), r.Intn(len(x.Free)+1)
	switch {
	case r.Intn(4) == 0:
		x.Free = slices.Insert(x.Free, free, anyPlace(r))
	case r.Intn(4) == 0:
		x.Slots = slices.Insert(x.Slots, slot, impl.Handle{})
	case r.Intn(2) == 0 && free < len(x.Free):
		x.Free[free] = r.Intn(len(x.Slots) + 1)
	case r.Intn(2) == 0 && free < len(x.Free):
		x.Free = slices.Delete(x.Free, free, free+1)
	case slot < len(x.Slots):
		x.Slots[slot] = spoiltHandle(r, x.Slots[slot])
	}
	return x
}

// anyHandling: mostly a good table, with a number of it.
func anyHandling(r *rand.Rand) handling {
	x := anyTable(r, []int{5, mostHandles}[r.Intn(2)])
	s := anyStep(r, x)
	g := handling{x, s.h, s.at, s.resource}
	switch r.Intn(6) {
	case 0:
		g.x = spoiltTable(r, g.x)
	case 1:
		g.h = spoiltHandle(r, g.h)
	case 2:
		g.at = anyPlace(r)
	case 3:
		g.resource = anyPlace(r)
	}
	return g
}

// oddTables: some that are not good, and some that hardly are.
func oddTables() []impl.Table {
	return []impl.Table{
		{}, {Slots: []impl.Handle{}, Free: []int{}}, {Free: []int{0}}, {Free: []int{-1, math.MinInt, math.MaxInt}}, {Free: make([]int, 100000)}, {Slots: make([]impl.Handle, 100000)},
		{Slots: make([]impl.Handle, 40)}, {Slots: make([]impl.Handle, 40), Free: make([]int, 40)}, {Slots: make([]impl.Handle, 100000), Free: make([]int, 100000)}, {Slots: make([]impl.Handle, 1), Free: make([]int, 1)},
		{Slots: slices.Repeat([]impl.Handle{own(1, 1)}, 100000)}, {Slots: []impl.Handle{{Used: true}}}, {Slots: []impl.Handle{{Own: true}}, Free: []int{0}},
		{Slots: []impl.Handle{{Used: true, Resource: math.MaxInt, Rep: math.MinInt, Lends: math.MaxInt, Scope: math.MinInt}}},
		{Slots: []impl.Handle{lent(own(1, 1), math.MinInt)}}, {Slots: []impl.Handle{lent(own(1, 1), math.MaxInt)}}, {Slots: []impl.Handle{borrow(1, 1, math.MaxInt)}},
		fullTable(1), fullTable(39), fullTable(40), fullTable(41), tableTold("o1:1+1000 - b1:1@1000+1000 | 1"), tableTold("o-1:1 |"),
	}
}

// Promise 19: every function answers at any arguments.
func TestHandlesAnswerAtAnything(t *testing.T) {
	handles := []impl.Handle{{}, own(1, 1), borrow(1, 1, 1)}
	for _, c := range edgeHandles() {
		handles = append(handles, c.h)
	}
	for i, x := range oddTables() {
		for k, at := range anyInts() {
			for j, resource := range anyInts() {
				// Long lists take long to copy.
				if len(x.Slots)+len(x.Free) > 1000 && k != j {
					continue
				}
				checkHandling(t, handling{x, handles[(i+3*k+j)%len(handles)], at, resource})
			}
		}
	}
	r := rand.New(rand.NewSource(171))
	for range 20000 {
		g := anyHandling(r)
		checkHandling(t, g)
		g.x = spoiltTable(r, g.x)
		checkHandling(t, g)
	}
}

// Promise 19: what lies behind a list's length is neither read nor written.
func TestHandlesLeaveArguments(t *testing.T) {
	r := rand.New(rand.NewSource(172))
	behind, behindFree := []impl.Handle{own(3, 3), {Resource: -7, Rep: math.MinInt}}, []int{0, math.MaxInt}
	for range 5000 {
		g := anyHandling(r)
		slots, free := slices.Concat(g.x.Slots, behind), slices.Concat(g.x.Free, behindFree)
		roomy := g
		roomy.x = impl.Table{Slots: slots[:len(g.x.Slots)], Free: free[:len(g.x.Free)]}
		if got, want := checkHandling(t, roomy), checkHandling(t, g); got != want {
			t.Fatalf("%s: %.500q, want %.500q", tableText(g.x), got, want)
		}
		if !slices.Equal(slots, slices.Concat(g.x.Slots, behind)) || !slices.Equal(free, slices.Concat(g.x.Free, behindFree)) {
			t.Fatalf("something behind an argument has changed: %v, %v", slots, free)
		}
	}
}

// Promise 19: answers are new memory, also with a code: what is written into one, also behind its lengths, is seen in
// neither the argument nor another answer.
func TestHandlesAreNew(t *testing.T) {
	r := rand.New(rand.NewSource(173))
	for range 3000 {
		g := anyHandling(r)
		roomy := impl.Table{Slots: slices.Grow(slices.Clone(g.x.Slots), 3), Free: slices.Grow(slices.Clone(g.x.Free), 3)}
		for _, s := range g.steps() {
			if s.do == doFind {
				continue
			}
			one, two := s.answer(roomy), s.answer(roomy)
			slots, free := one.x.Slots[:cap(one.x.Slots)], one.x.Free[:cap(one.x.Free)]
			for i := range slots {
				slots[i] = impl.Handle{Resource: -7, Rep: -7}
			}
			for i := range free {
				free[i] = -7
			}
			if !sameTable(roomy, g.x) || !sameHandleAnswer(two, wantStep(g.x, s)) || !sameHandleAnswer(s.answer(roomy), two) {
				t.Fatalf("%s, %s: an answer lies in other memory", tableText(g.x), s)
			}
			if slices.ContainsFunc(roomy.Slots[:cap(roomy.Slots)], func(h impl.Handle) bool { return h.Rep == -7 }) || slices.Contains(roomy.Free[:cap(roomy.Free)], -7) {
				t.Fatalf("%s, %s: an answer lies behind the argument", tableText(g.x), s)
			}
			clear(roomy.Slots)
			clear(roomy.Free)
			if !sameHandleAnswer(two, wantStep(g.x, s)) {
				t.Fatalf("%s, %s: an answer lies in the argument", tableText(g.x), s)
			}
			copy(roomy.Slots, g.x.Slots)
			copy(roomy.Free, g.x.Free)
		}
	}
}

// Promise 19: the same call answers the same again, whatever was asked between, also at the same time.
func TestHandlesKeepNothing(t *testing.T) {
	r := rand.New(rand.NewSource(174))
	var all []handling
	var first []string
	for range 1000 {
		g := anyHandling(r)
		all, first = append(all, g), append(first, checkHandling(t, g))
	}
	each := make(chan []string)
	for range 2 {
		go func() {
			var l []string
			for _, g := range all {
				l = append(l, g.answers())
			}
			each <- l
		}()
	}
	for range 2 {
		if again := <-each; !slices.Equal(again, first) {
			t.Error("answers differ")
		}
	}
	for i, g := range slices.Backward(all) {
		if again := checkHandling(t, g); again != first[i] {
			t.Fatalf("%.500q, then %.500q", first[i], again)
		}
	}
}
