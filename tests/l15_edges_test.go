package tests

import (
	"fmt"
	"math"
	"slices"
	"testing"

	"loop.example/g00209/impl"
)

// edgeHandle: one field at one of its edges, and whether it is good then.
type edgeHandle struct {
	h    impl.Handle
	good bool
}

func edgeHandles() []edgeHandle {
	var l []edgeHandle
	add := func(good bool, h impl.Handle) { l = append(l, edgeHandle{h, good}) }
	for _, n := range []int{-1, 0, 1, 9, 10, math.MaxInt, math.MinInt} {
		good := n >= 0 && n < 10
		add(good, own(n, 5))
		add(good, borrow(n, 5, 1))
	}
	for _, n := range []int{-1, 0, 1, 1000000, 1000001, math.MaxInt, math.MinInt} {
		good := n >= 0 && n < 1000001
		add(good, own(2, n))
		add(good, borrow(2, n, 1))
	}
	for _, n := range []int{-1, 0, 1, 999, 1000, 1001, math.MaxInt, math.MinInt} {
		good := n >= 0 && n < 1001
		add(good, lent(own(2, 5), n))
		add(good, lent(borrow(2, 5, 1), n))
	}
	for _, n := range []int{-1, 0, 1, 999, 1000, 1001, math.MaxInt, math.MinInt} {
		add(n > 0 && n < 1001, borrow(2, 5, n))
		h := own(2, 5)
		h.Scope = n
		add(n == 0, h)
	}
	// Not Used, with something in it.
	for _, h := range []impl.Handle{own(2, 5), own(0, 0), borrow(2, 5, 1), {Used: true, Resource: 1}, {Used: true, Rep: 1}, {Used: true, Lends: 1}, {Used: true, Scope: 1}, {Used: true, Rep: -1}} {
		h.Used = false
		add(false, h)
	}
	return l
}

// Promise 15: each field of a Slot at its edges, and a Slot that is not Used and has something in it, Free or not.
func TestTablesWithSlotsAtEdges(t *testing.T) {
	for _, c := range edgeHandles() {
		for _, slots := range [][]impl.Handle{{c.h}, {own(1, 1), c.h}, {c.h, own(1, 1)}, {borrow(0, 0, 1), c.h, borrow(9, 9, 9)}} {
			x := impl.Table{Slots: slots}
			checkGoodTable(t, x, c.good)
			x.Free = []int{slices.Index(slots, c.h)}
			checkGoodTable(t, x, false)
		}
		full := fullTable(mostHandles)
		full.Slots[39] = c.h
		checkGoodTable(t, full, c.good)
	}
}

// Promise 15: tables of MaxHandles Slots and one more, all Used, none Used, and some of them.
func TestTablesOfManySlots(t *testing.T) {
	for many := range mostHandles + 4 {
		full, none, some := fullTable(many), impl.Table{}, fullTable(many)
		for n := range many {
			none.Slots, none.Free = append(none.Slots, impl.Handle{}), append(none.Free, n)
			if n%3 == 0 {
				some.Slots[n] = impl.Handle{}
				some.Free = append([]int{n}, some.Free...)
			}
		}
		for _, x := range []impl.Table{full, none, some} {
			checkGoodTable(t, x, many <= mostHandles)
			for _, do := range append(ofAHandle, doNew) {
				checkStep(t, x, handleStep{do: do, at: many - 1, resource: (many + 9) % 10, h: own(1, 1)})
			}
			checkCount(t, x, -1)
		}
	}
	checkGoodTable(t, impl.Table{}, true)
	checkGoodTable(t, impl.Table{Slots: []impl.Handle{}, Free: []int{}}, true)
}

// Promise 15: Free has just the numbers of the Slots that are not Used, each once, in any order.
func TestTablesWithFreeAtEdges(t *testing.T) {
	for text, good := range map[string]bool{
		"|": true, "o1:1 |": true, "- | 0": true, "- - | 0 1": true, "- - | 1 0": true,
		"- o1:1 - b1:1@1 - | 0 2 4": true, "- o1:1 - b1:1@1 - | 4 2 0": true, "- o1:1 - b1:1@1 - | 2 4 0": true, "- o1:1 - b1:1@1 - | 2 0 4": true,
		"o1:1 - | 1": true, "o1:1+1000 - | 1": true,

		// one twice
		"- | 0 0": false, "- - | 0 0": false, "- - | 0 1 0": false, "- - | 1 1": false, "- o1:1 - | 2 0 2": false,
		// one that is Used
		"o1:1 | 0": false, "o1:1 - | 1 0": false, "o1:1 - | 0 1": false, "o1:1 - | 0": false, "b1:1@1 - o1:1 | 1 2": false,
		// one that is none
		"| 0": false, "| -1": false, "- | 1": false, "- | 0 1": false, "- | -1": false, "- | -1 0": false, "- | 0 -1": false, "o1:1 | 1": false,
		"- | 0 40": false, "- | 9223372036854775807": false, "- | 0 -9223372036854775808": false,
		// one that lacks
		"- |": false, "- - | 0": false, "- - | 1": false, "- - |": false, "- o1:1 - | 0": false, "- o1:1 - | 2": false, "o1:1 - |": false,
	} {
		x := tableTold(text)
		checkGoodTable(t, x, good)
		for _, do := range append(ofAHandle, doNew) {
			checkStep(t, x, handleStep{do: do, resource: 1, h: own(1, 1)})
		}
		checkCount(t, x, 1)
	}
	// Each order of five numbers.
	x := tableTold("- - o1:1 - - - |")
	var orders func(ahead []int, rest []int)
	orders = func(ahead []int, rest []int) {
		if len(rest) == 0 {
			x.Free = ahead
			checkGoodTable(t, x, true)
			if _, at, code := impl.NewHandle(x, own(1, 1)); at != ahead[4] || code != impl.HandleOk {
				t.Errorf("Free is %v: NewHandle at %d, code %d", ahead, at, code)
			}
		}
		for i, n := range rest {
			orders(append(slices.Clone(ahead), n), slices.Delete(slices.Clone(rest), i, i+1))
		}
	}
	orders(nil, []int{0, 1, 3, 4, 5})
}

// Promise 15: only a good handle that is Used and not lent is put; all else is HandleBad, also where there is no room.
func TestHandlesPutAtEdges(t *testing.T) {
	for _, c := range edgeHandles() {
		for _, text := range []string{"|", "o1:1 |", "- b1:1@1 - | 2 0"} {
			x := tableTold(text)
			a := checkStep(t, x, handleStep{do: doNew, h: c.h})
			if ok := c.good && c.h.Lends == 0; ok != (a.code == impl.HandleOk) || !ok && (a.code != impl.HandleBad || a.at != 0 || !sameTable(a.x, x)) {
				t.Errorf("%s: NewHandle %s: %s", text, handleText(c.h), a)
			}
		}
		full := fullTable(mostHandles)
		want := impl.HandleBad
		if c.good && c.h.Lends == 0 {
			want = impl.HandleFull
		}
		if a := checkStep(t, full, handleStep{do: doNew, h: c.h}); a.code != want || a.at != 0 || !sameTable(a.x, full) {
			t.Errorf("a full table: NewHandle %s: %s", handleText(c.h), a)
		}
	}
	if a := checkStep(t, impl.Table{}, handleStep{do: doNew}); a.code != impl.HandleBad {
		t.Error("NewHandle of the zero handle:", a)
	}
}

// Promise 15: HandleFull with MaxHandles Slots all Used; with one of them Free, whichever, that one is used.
func TestTablesThatAreFull(t *testing.T) {
	x := fullTable(mostHandles - 1)
	x, at, code := impl.NewHandle(x, own(7, 7))
	if at != 39 || code != impl.HandleOk || len(x.Slots) != mostHandles {
		t.Fatalf("the last one: at %d, code %d", at, code)
	}
	if a := checkStep(t, x, handleStep{do: doNew, h: own(7, 8)}); a.code != impl.HandleFull || a.at != 0 || !sameTable(a.x, x) {
		t.Error("one more:", a)
	}
	for free := range mostHandles {
		x := fullTable(mostHandles)
		x.Slots[free], x.Free = impl.Handle{}, []int{free}
		a := checkStep(t, x, handleStep{do: doNew, h: own(7, 8)})
		if a.code != impl.HandleOk || a.at != free || len(a.x.Free) > 0 {
			t.Errorf("Free is %d: %s", free, a)
		}
		if b := checkStep(t, a.x, handleStep{do: doNew, h: own(7, 8)}); b.code != impl.HandleFull {
			t.Errorf("Free was %d: %s", free, b)
		}
	}
}

// Promise 15: numbers that are none, the last Slot, one beyond, one that is not Used, and another Resource.
func TestHandlesAskedForAtEdges(t *testing.T) {
	x := tableTold("o1:1+1 - b2:2@1+1 - o3:3+1 | 3 1")
	for at, resource := range map[int]int{0: 1, 2: 2, 4: 3} {
		for _, do := range ofAHandle {
			for asked := range 12 {
				s := handleStep{do: do, at: at, resource: asked - 1}
				a := checkStep(t, x, s)
				if kind := do != doReturn && asked-1 != resource; kind != (a.code == impl.HandleKind) {
					t.Errorf("%s: %s", s, a)
				}
			}
		}
	}
	for _, at := range []int{-1, 1, 3, 5, 6, 39, 40, 41, -5, math.MaxInt, math.MinInt, 1 << 32, 1<<32 + 4} {
		for _, do := range ofAHandle {
			for _, resource := range []int{-1, 0, 1, 2, 3, 9, 10, math.MaxInt, math.MinInt} {
				s := handleStep{do: do, at: at, resource: resource}
				if a := checkStep(t, x, s); a.code != impl.HandleNone || a.h != (impl.Handle{}) || !sameTable(a.x, x) {
					t.Errorf("%s: %s", s, a)
				}
			}
		}
	}
	for _, do := range ofAHandle {
		if a := checkStep(t, impl.Table{}, handleStep{do: do}); a.code != impl.HandleNone {
			t.Errorf("%s of a table with no Slots: %s", do, a)
		}
	}
}

// Promise 15: LendHandle at Lends 999 and 1000, ReturnHandle at 1 and 0, of own ones and of borrows.
func TestLendsAtEdges(t *testing.T) {
	for _, h := range []impl.Handle{own(6, 6), borrow(6, 6, 1000)} {
		for _, c := range []struct {
			do      string
			lends   int
			code    int
			becomes int
		}{
			{doLend, 0, impl.HandleOk, 1}, {doLend, 1, impl.HandleOk, 2}, {doLend, 998, impl.HandleOk, 999}, {doLend, 999, impl.HandleOk, 1000}, {doLend, 1000, impl.HandleLent, 1000},
			{doReturn, 1000, impl.HandleOk, 999}, {doReturn, 2, impl.HandleOk, 1}, {doReturn, 1, impl.HandleOk, 0}, {doReturn, 0, impl.HandleLent, 0},
		} {
			x := impl.Table{Slots: []impl.Handle{{}, lent(h, c.lends)}, Free: []int{0}}
			a := checkStep(t, x, handleStep{do: c.do, at: 1, resource: 6})
			want := handleAnswer{x: impl.Table{Slots: []impl.Handle{{}, lent(h, c.becomes)}, Free: []int{0}}, code: c.code}
			if c.do == doLend && c.code == impl.HandleOk {
				want.h = lent(h, c.lends)
			}
			if !sameHandleAnswer(a, want) {
				t.Errorf("%s of %s: %s, want %s", c.do, handleText(lent(h, c.lends)), a, want)
			}
		}
	}
}

// Promise 15: which code is told where several could be: HandleBad, HandleNone, HandleKind, HandleOwned, HandleLent, in
// this order; the table stays, one that is not good is the zero table.
func TestHandleCodesInOrder(t *testing.T) {
	const bad = "o1:1 - |"
	for _, c := range []struct {
		do       string
		text     string
		at       int
		resource int
		code     int
	}{
		{doFind, "b1:1@1+1 |", 0, 1, impl.HandleOk}, {doFind, "b1:1@1+1 |", 0, 2, impl.HandleKind}, {doFind, "b1:1@1+1 |", 1, 2, impl.HandleNone}, {doFind, bad, 1, 2, impl.HandleBad}, {doFind, bad, 0, 1, impl.HandleBad},
		{doLend, "b1:1@1+1000 |", 0, 1, impl.HandleLent}, {doLend, "b1:1@1+1000 |", 0, 2, impl.HandleKind}, {doLend, "o1:1+1000 |", 0, 0, impl.HandleKind}, {doLend, "o1:1+1000 - | 1", 1, 2, impl.HandleNone}, {doLend, bad, 0, 1, impl.HandleBad},
		{doReturn, "o1:1 |", 0, 2, impl.HandleLent}, {doReturn, "o1:1+1 |", 0, 2, impl.HandleOk}, {doReturn, "o1:1 - | 1", 1, 1, impl.HandleNone}, {doReturn, bad, 0, 1, impl.HandleBad},
		{doDrop, "o1:1+1 |", 0, 1, impl.HandleLent}, {doDrop, "b1:1@1+1 |", 0, 1, impl.HandleLent}, {doDrop, "b1:1@1 |", 0, 1, impl.HandleOk}, {doDrop, "o1:1+1 |", 0, 2, impl.HandleKind}, {doDrop, "o1:1+1 |", -1, 1, impl.HandleNone}, {doDrop, bad, 0, 1, impl.HandleBad},
		{doMove, "o1:1+1 |", 0, 1, impl.HandleLent}, {doMove, "b1:1@1+1 |", 0, 1, impl.HandleOwned}, {doMove, "b1:1@1 |", 0, 1, impl.HandleOwned}, {doMove, "b1:1@1+1 |", 0, 2, impl.HandleKind}, {doMove, "o1:1+1 |", 0, 2, impl.HandleKind}, {doMove, "b1:1@1+1 |", 1, 2, impl.HandleNone}, {doMove, "o1:1 |", 0, 1, impl.HandleOk}, {doMove, bad, 0, 1, impl.HandleBad},
	} {
		x := tableTold(c.text)
		s := handleStep{do: c.do, at: c.at, resource: c.resource}
		a := checkStep(t, x, s)
		stays := x
		if c.code == impl.HandleBad {
			stays = impl.Table{}
		}
		if a.code != c.code || c.code != impl.HandleOk && (!sameTable(a.x, stays) || a.h != (impl.Handle{})) {
			t.Errorf("%s: %s: %s, want code %d", c.text, s, a, c.code)
		}
	}
	full := fullTable(mostHandles + 1)
	for _, h := range []impl.Handle{own(1, 1), {}, lent(own(1, 1), 1)} {
		if a := checkStep(t, full, handleStep{do: doNew, h: h}); a.code != impl.HandleBad || !sameTable(a.x, impl.Table{}) {
			t.Errorf("a table of one Slot too many: %s", a)
		}
	}
}

// Promise 15: the codes and the limit are those that the document tells.
func TestHandleConstants(t *testing.T) {
	got := fmt.Sprint(impl.MaxHandles, impl.HandleOk, impl.HandleBad, impl.HandleNone, impl.HandleKind, impl.HandleLent, impl.HandleFull, impl.HandleOwned)
	if got != "40 0 1 2 3 4 5 6" {
		t.Error(got)
	}
}
