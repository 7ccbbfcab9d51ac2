package tests

import (
	"math/rand"
	"slices"
	"testing"

	"loop.example/g00209/impl"
)

// Promise 15: handles put, found, lent, given back, dropped and moved in a row, the table written out after each step.
func TestHandlesWrittenOut(t *testing.T) {
	put := func(h string) handleStep { return handleStep{do: doNew, h: handleTold(h)} }
	ask := func(do string, at int, resource int) handleStep {
		return handleStep{do: do, at: at, resource: resource}
	}
	x := impl.Table{}
	for i, c := range []struct {
		step handleStep
		at   int
		h    string
		code int
		text string
	}{
		{put("o2:5"), 0, "-", impl.HandleOk, "o2:5 |"},
		{put("b2:5@1"), 1, "-", impl.HandleOk, "o2:5 b2:5@1 |"},
		{put("o0:0"), 2, "-", impl.HandleOk, "o2:5 b2:5@1 o0:0 |"},
		{put("b9:1000000@1000"), 3, "-", impl.HandleOk, "o2:5 b2:5@1 o0:0 b9:1000000@1000 |"},
		{ask(doFind, 0, 2), 0, "o2:5", impl.HandleOk, "o2:5 b2:5@1 o0:0 b9:1000000@1000 |"},
		{ask(doFind, 1, 2), 0, "b2:5@1", impl.HandleOk, "o2:5 b2:5@1 o0:0 b9:1000000@1000 |"},
		{ask(doFind, 1, 3), 0, "-", impl.HandleKind, "o2:5 b2:5@1 o0:0 b9:1000000@1000 |"},
		{ask(doFind, 4, 2), 0, "-", impl.HandleNone, "o2:5 b2:5@1 o0:0 b9:1000000@1000 |"},

		// what is lent stays until all of it was given back
		{ask(doLend, 0, 2), 0, "o2:5", impl.HandleOk, "o2:5+1 b2:5@1 o0:0 b9:1000000@1000 |"},
		{ask(doLend, 0, 2), 0, "o2:5+1", impl.HandleOk, "o2:5+2 b2:5@1 o0:0 b9:1000000@1000 |"},
		{ask(doLend, 1, 2), 0, "b2:5@1", impl.HandleOk, "o2:5+2 b2:5@1+1 o0:0 b9:1000000@1000 |"},
		{ask(doLend, 2, 1), 0, "-", impl.HandleKind, "o2:5+2 b2:5@1+1 o0:0 b9:1000000@1000 |"},
		{ask(doDrop, 0, 2), 0, "-", impl.HandleLent, "o2:5+2 b2:5@1+1 o0:0 b9:1000000@1000 |"},
		{ask(doMove, 0, 2), 0, "-", impl.HandleLent, "o2:5+2 b2:5@1+1 o0:0 b9:1000000@1000 |"},
		{ask(doDrop, 1, 2), 0, "-", impl.HandleLent, "o2:5+2 b2:5@1+1 o0:0 b9:1000000@1000 |"},
		{ask(doMove, 1, 2), 0, "-", impl.HandleOwned, "o2:5+2 b2:5@1+1 o0:0 b9:1000000@1000 |"},
		{ask(doReturn, 0, 0), 0, "-", impl.HandleOk, "o2:5+1 b2:5@1+1 o0:0 b9:1000000@1000 |"},
		{ask(doDrop, 0, 2), 0, "-", impl.HandleLent, "o2:5+1 b2:5@1+1 o0:0 b9:1000000@1000 |"},
		{ask(doReturn, 0, 0), 0, "-", impl.HandleOk, "o2:5 b2:5@1+1 o0:0 b9:1000000@1000 |"},
		{ask(doReturn, 0, 0), 0, "-", impl.HandleLent, "o2:5 b2:5@1+1 o0:0 b9:1000000@1000 |"},

		// one that went is found no more, and its number is the next to be used
		{ask(doMove, 0, 3), 0, "-", impl.HandleKind, "o2:5 b2:5@1+1 o0:0 b9:1000000@1000 |"},
		{ask(doMove, 0, 2), 0, "o2:5", impl.HandleOk, "- b2:5@1+1 o0:0 b9:1000000@1000 | 0"},
		{ask(doFind, 0, 2), 0, "-", impl.HandleNone, "- b2:5@1+1 o0:0 b9:1000000@1000 | 0"},
		{ask(doFind, 0, 0), 0, "-", impl.HandleNone, "- b2:5@1+1 o0:0 b9:1000000@1000 | 0"},
		{ask(doDrop, 0, 2), 0, "-", impl.HandleNone, "- b2:5@1+1 o0:0 b9:1000000@1000 | 0"},
		{ask(doReturn, 0, 0), 0, "-", impl.HandleNone, "- b2:5@1+1 o0:0 b9:1000000@1000 | 0"},
		{ask(doDrop, 3, 9), 0, "b9:1000000@1000", impl.HandleOk, "- b2:5@1+1 o0:0 - | 0 3"},
		{ask(doReturn, 1, 0), 0, "-", impl.HandleOk, "- b2:5@1 o0:0 - | 0 3"},
		{ask(doMove, 1, 2), 0, "-", impl.HandleOwned, "- b2:5@1 o0:0 - | 0 3"},
		{ask(doDrop, 1, 2), 0, "b2:5@1", impl.HandleOk, "- - o0:0 - | 0 3 1"},
		{put("o4:7"), 1, "-", impl.HandleOk, "- o4:7 o0:0 - | 0 3"},
		{ask(doDrop, 2, 0), 0, "o0:0", impl.HandleOk, "- o4:7 - - | 0 3 2"},
		{put("b4:7@2"), 2, "-", impl.HandleOk, "- o4:7 b4:7@2 - | 0 3"},
		{put("o1:1"), 3, "-", impl.HandleOk, "- o4:7 b4:7@2 o1:1 | 0"},
		{put("o1:2"), 0, "-", impl.HandleOk, "o1:2 o4:7 b4:7@2 o1:1 |"},
		{put("o1:3"), 4, "-", impl.HandleOk, "o1:2 o4:7 b4:7@2 o1:1 o1:3 |"},
	} {
		a := checkStep(t, x, c.step)
		want := handleAnswer{tableTold(c.text), c.at, handleTold(c.h), c.code}
		if !sameHandleAnswer(a, want) {
			t.Fatalf("step %d, %s: %s, want %s", i, c.step, a, want)
		}
		x = a.x
	}
}

// Promise 15: any steps in a row, held against a table of the tests' own after each.
func TestHandlesInARow(t *testing.T) {
	met := map[int]int{}
	for seed := range int64(120) {
		r := rand.New(rand.NewSource(160 + seed))
		got, mine := impl.Table{}, impl.Table{}
		if seed%4 == 3 {
			got = fullTable(mostHandles - int(seed)%3)
			mine = copyOfTable(got)
		}
		for range 250 {
			s := anyStep(r, mine)
			if seed%2 == 0 && r.Intn(3) == 0 {
				s.do = doNew
			}
			want := wantStep(mine, s)
			if a := s.answer(got); !sameHandleAnswer(a, want) {
				t.Fatalf("%s, %s: %s, want %s", tableText(got), s, a, want)
			} else {
				got = a.x
			}
			met[want.code]++
			mine = want.x
			checkGoodTable(t, got, true)
			checkCount(t, got, r.Intn(11)-1)
		}
	}
	for _, code := range []int{impl.HandleOk, impl.HandleNone, impl.HandleKind, impl.HandleLent, impl.HandleFull, impl.HandleOwned} {
		if met[code] < 20 {
			t.Errorf("code %d was met %d times alone", code, met[code])
		}
	}
}

// Promise 15: any good tables, and each step of each of their numbers.
func TestAnyTables(t *testing.T) {
	r := rand.New(rand.NewSource(161))
	for range 400 {
		x := anyTable(r, mostHandles)
		checkGoodTable(t, x, true)
		checkStep(t, x, handleStep{do: doNew, h: anyHandle(r)})
		for at := -1; at <= len(x.Slots); at++ {
			s := handleStep{at: at, resource: r.Intn(10)}
			if at >= 0 && at < len(x.Slots) && r.Intn(4) > 0 {
				s.resource = x.Slots[at].Resource
			}
			for _, s.do = range ofAHandle {
				checkStep(t, x, s)
			}
		}
		for resource := -2; resource <= 11; resource++ {
			checkCount(t, x, resource)
		}
	}
}

// Promise 15: a handle that is put is found as its kind alone, and nothing else is touched.
func TestHandlesAreFoundAsTheirKindAlone(t *testing.T) {
	r := rand.New(rand.NewSource(162))
	for resource := range 10 {
		for _, h := range []impl.Handle{own(resource, 7), borrow(resource, 7, 1), borrow(resource, 0, 1000)} {
			ahead := anyTable(r, mostHandles-1)
			x, at, code := impl.NewHandle(ahead, h)
			if code != impl.HandleOk {
				t.Fatalf("%s: NewHandle %s: code %d", tableText(ahead), handleText(h), code)
			}
			for asked := -1; asked <= 10; asked++ {
				want, wanted := h, impl.HandleOk
				if asked != resource {
					want, wanted = impl.Handle{}, impl.HandleKind
				}
				if got, code := impl.FindHandle(x, at, asked); got != want || code != wanted {
					t.Errorf("%s asked for as of %d: %s, %d", handleText(h), asked, handleText(got), code)
				}
				for _, do := range []string{doLend, doDrop, doMove} {
					s := handleStep{do: do, at: at, resource: asked}
					if a := checkStep(t, x, s); asked != resource && (a.code != impl.HandleKind || !sameTable(a.x, x)) {
						t.Errorf("%s: %s", s, a)
					}
				}
			}
			for n, was := range ahead.Slots {
				if n != at && x.Slots[n] != was {
					t.Errorf("NewHandle at %d has changed Slot %d: %s, was %s", at, n, handleText(x.Slots[n]), handleText(was))
				}
			}
		}
	}
}

// Promise 15: one that is dropped or moved is found no more, of no resource, and its number is the next to be used.
func TestHandlesThatWentAreFoundNoMore(t *testing.T) {
	for at := range mostHandles {
		for _, do := range []string{doDrop, doMove} {
			x := fullTable(mostHandles)
			if do == doMove {
				x.Slots[at].Own, x.Slots[at].Scope = true, 0
			}
			h := x.Slots[at]
			a := handleStep{do: do, at: at, resource: h.Resource}.answer(x)
			if a.code != impl.HandleOk || a.h != h || !slices.Equal(a.x.Free, []int{at}) || len(a.x.Slots) != mostHandles || a.x.Slots[at] != (impl.Handle{}) {
				t.Fatalf("%s at %d: %s", do, at, a)
			}
			for resource := -1; resource <= 10; resource++ {
				for _, s := range ofAHandle {
					if b := (handleStep{do: s, at: at, resource: resource}).answer(a.x); b.code != impl.HandleNone || b.h != (impl.Handle{}) || !sameTable(b.x, a.x) {
						t.Fatalf("%s of what went: %s", s, b)
					}
				}
			}
			next, number, code := impl.NewHandle(a.x, own(3, 33))
			if code != impl.HandleOk || number != at || len(next.Free) > 0 || next.Slots[at] != own(3, 33) {
				t.Fatalf("what is put next is at %d, not at %d: code %d", number, at, code)
			}
		}
	}
}

// Promise 15: several that are dropped are used again from the last one on; then the table grows.
func TestHandlesAreUsedAgainFromTheLast(t *testing.T) {
	r := rand.New(rand.NewSource(163))
	for range 100 {
		many := 1 + r.Intn(mostHandles-2)
		x := fullTable(many)
		gone := r.Perm(many)[:1+r.Intn(many)]
		for _, at := range gone {
			a := checkStep(t, x, handleStep{do: doDrop, at: at, resource: x.Slots[at].Resource})
			x = a.x
		}
		if !slices.Equal(x.Free, gone) {
			t.Fatalf("Free is %v, want %v", x.Free, gone)
		}
		back := slices.Clone(gone)
		slices.Reverse(back)
		for _, want := range append(back, many, many+1) {
			next, at, code := impl.NewHandle(x, own(1, want))
			if at != want || code != impl.HandleOk || next.Slots[at] != own(1, want) {
				t.Fatalf("%s: NewHandle at %d, code %d, want %d", tableText(x), at, code, want)
			}
			x = next
		}
	}
}

// Promise 15: what is lent is neither dropped nor moved until it was given back as many times.
func TestHandlesThatAreLentStay(t *testing.T) {
	for _, h := range []impl.Handle{own(4, 9), borrow(4, 9, 3)} {
		for _, times := range []int{1, 2, 3, 17, 999, 1000} {
			x := impl.Table{Slots: []impl.Handle{own(1, 1), h, own(4, 8)}}
			for n := range times {
				a := handleStep{do: doLend, at: 1, resource: 4}.answer(x)
				if a.code != impl.HandleOk || a.h != lent(h, n) || a.x.Slots[1] != lent(h, n+1) {
					t.Fatalf("lent %d times: %s", n, a)
				}
				x = a.x
			}
			for n := times; n > 0; n-- {
				wanted := map[string]int{doDrop: impl.HandleLent, doMove: impl.HandleLent}
				if !h.Own {
					wanted[doMove] = impl.HandleOwned
				}
				for do, code := range wanted {
					if a := (handleStep{do: do, at: 1, resource: 4}).answer(x); a.code != code || a.h != (impl.Handle{}) || !sameTable(a.x, x) {
						t.Fatalf("%s, lent %d times: %s", do, n, a)
					}
				}
				next, code := impl.ReturnHandle(x, 1)
				if code != impl.HandleOk || next.Slots[1] != lent(h, n-1) {
					t.Fatalf("given back: %s, code %d", tableText(next), code)
				}
				x = next
			}
			if a := (handleStep{do: doDrop, at: 1, resource: 4}).answer(x); a.code != impl.HandleOk || a.h != h {
				t.Fatalf("given back as many times: %s", a)
			}
		}
	}
}

// Promise 15: how many there are of each resource, and of all.
func TestHandlesCounted(t *testing.T) {
	x := tableTold("o2:5 - b2:5@1+3 o0:0+1000 - o9:2 b2:6@7 - | 4 1 7")
	for resource, want := range map[int]int{-1: 5, 0: 1, 1: 0, 2: 3, 3: 0, 8: 0, 9: 1} {
		if n, ok := impl.CountUsed(x, resource); n != want || !ok {
			t.Errorf("CountUsed of %d: %d, %t, want %d", resource, n, ok, want)
		}
	}
	for many := range mostHandles + 1 {
		full := fullTable(many)
		if n, ok := impl.CountUsed(full, -1); n != many || !ok {
			t.Errorf("CountUsed of all of %d: %d, %t", many, n, ok)
		}
		for resource := range 10 {
			checkCount(t, full, resource)
		}
	}
	if n, ok := impl.CountUsed(tableTold("- - | 1 0"), -1); n != 0 || !ok {
		t.Error("CountUsed of none:", n, ok)
	}
	if n, ok := impl.CountUsed(tableTold("o2:5 - |"), 2); n != 0 || ok {
		t.Error("CountUsed of a table that is not good:", n, ok)
	}
}
