package tests

import (
	"fmt"
	"math"
	"math/rand"
	"slices"
	"testing"

	"loop.example/g00209/impl"
)

// Promise 16: acts of all kinds in a row, the world written out after each.
func TestWorldsWrittenOut(t *testing.T) {
	w := newWorld(t, 3)
	for i, c := range []struct {
		act  string
		told int
		code int
		text string
	}{
		{"end", 0, impl.HandleNone, "; | / | / | ; ;"},
		{"make 0 1", 0, impl.HandleOk, "1 ; o1:0 | / | / | ; ;"},
		{"make 0 2", 1, impl.HandleOk, "1 2 ; o1:0 o2:1 | / | / | ; ;"},
		{"make 2 1", 0, impl.HandleOk, "1 2 1 ; o1:0 o2:1 | / | / o1:2 | ; ;"},
		{"make 2 10", 0, impl.HandleBad, "1 2 1 ; o1:0 o2:1 | / | / o1:2 | ; ;"},

		// one that is lent is neither given nor dropped
		{"lend 0 1 1 2", 0, impl.HandleOk, "1 2 1 ; o1:0 o2:1+1 | / b2:1@1 | / o1:2 | ; 0.1>1.0 ;"},
		{"give 0 1 2 2", 0, impl.HandleLent, "1 2 1 ; o1:0 o2:1+1 | / b2:1@1 | / o1:2 | ; 0.1>1.0 ;"},
		{"drop 0 1 2", 0, impl.HandleLent, "1 2 1 ; o1:0 o2:1+1 | / b2:1@1 | / o1:2 | ; 0.1>1.0 ;"},
		{"lend 0 1 2 2", 1, impl.HandleOk, "1 2 1 ; o1:0 o2:1+2 | / b2:1@1 | / o1:2 b2:1@2 | ; 0.1>1.0 0.1>2.1 ;"},
		{"lend 2 0 1 1", 1, impl.HandleOk, "1 2 1 ; o1:0 o2:1+2 | / b2:1@1 b1:2@3 | / o1:2+1 b2:1@2 | ; 0.1>1.0 0.1>2.1 2.0>1.1 ;"},

		// what was borrowed is neither given nor lent on, nor dropped ahead of what was lent behind it
		{"give 1 0 2 2", 0, impl.HandleOwned, "1 2 1 ; o1:0 o2:1+2 | / b2:1@1 b1:2@3 | / o1:2+1 b2:1@2 | ; 0.1>1.0 0.1>2.1 2.0>1.1 ;"},
		{"lend 1 0 2 2", 0, impl.HandleOwned, "1 2 1 ; o1:0 o2:1+2 | / b2:1@1 b1:2@3 | / o1:2+1 b2:1@2 | ; 0.1>1.0 0.1>2.1 2.0>1.1 ;"},
		{"lend 1 0 2 1", 0, impl.HandleKind, "1 2 1 ; o1:0 o2:1+2 | / b2:1@1 b1:2@3 | / o1:2+1 b2:1@2 | ; 0.1>1.0 0.1>2.1 2.0>1.1 ;"},
		{"drop 1 0 2", 0, impl.HandleLent, "1 2 1 ; o1:0 o2:1+2 | / b2:1@1 b1:2@3 | / o1:2+1 b2:1@2 | ; 0.1>1.0 0.1>2.1 2.0>1.1 ;"},
		{"drop 2 1 2", 0, impl.HandleLent, "1 2 1 ; o1:0 o2:1+2 | / b2:1@1 b1:2@3 | / o1:2+1 b2:1@2 | ; 0.1>1.0 0.1>2.1 2.0>1.1 ;"},
		{"drop 1 1 1", 2, impl.HandleOk, "1 2 1 ; o1:0 o2:1+2 | / b2:1@1 - | 1 / o1:2 b2:1@2 | ; 0.1>1.0 0.1>2.1 ;"},

		// loans end from the last one on
		{"end", 1, impl.HandleOk, "1 2 1 ; o1:0 o2:1+1 | / b2:1@1 - | 1 / o1:2 - | 1 ; 0.1>1.0 ;"},
		{"lend 2 0 1 1", 1, impl.HandleOk, "1 2 1 ; o1:0 o2:1+1 | / b2:1@1 b1:2@2 | / o1:2+1 - | 1 ; 0.1>1.0 2.0>1.1 ;"},
		{"end", 2, impl.HandleOk, "1 2 1 ; o1:0 o2:1+1 | / b2:1@1 - | 1 / o1:2 - | 1 ; 0.1>1.0 ;"},
		{"drop 1 0 2", 1, impl.HandleOk, "1 2 1 ; o1:0 o2:1 | / - - | 1 0 / o1:2 - | 1 ; ;"},
		{"drop 1 0 2", 0, impl.HandleNone, "1 2 1 ; o1:0 o2:1 | / - - | 1 0 / o1:2 - | 1 ; ;"},
		{"end", 0, impl.HandleNone, "1 2 1 ; o1:0 o2:1 | / - - | 1 0 / o1:2 - | 1 ; ;"},

		// what is given is the other's
		{"give 0 1 0 2", 0, impl.HandleBad, "1 2 1 ; o1:0 o2:1 | / - - | 1 0 / o1:2 - | 1 ; ;"},
		{"give 0 1 2 2", 1, impl.HandleOk, "1 2 1 ; o1:0 - | 1 / - - | 1 0 / o1:2 o2:1 | ; ;"},
		{"give 0 1 2 2", 0, impl.HandleNone, "1 2 1 ; o1:0 - | 1 / - - | 1 0 / o1:2 o2:1 | ; ;"},
		{"drop 0 1 2", 0, impl.HandleNone, "1 2 1 ; o1:0 - | 1 / - - | 1 0 / o1:2 o2:1 | ; ;"},
		{"give 0 0 1 1", 0, impl.HandleOk, "1 2 1 ; - - | 1 0 / o1:0 - | 1 / o1:2 o2:1 | ; ;"},

		// what is dropped is not Alive, and its end is told once
		{"drop 2 1 1", 0, impl.HandleKind, "1 2 1 ; - - | 1 0 / o1:0 - | 1 / o1:2 o2:1 | ; ;"},
		{"drop 2 1 2", 1, impl.HandleOk, "1 2x 1 ; - - | 1 0 / o1:0 - | 1 / o1:2 - | 1 ; ; 1"},
		{"drop 2 1 2", 0, impl.HandleNone, "1 2x 1 ; - - | 1 0 / o1:0 - | 1 / o1:2 - | 1 ; ; 1"},
		{"drop 1 0 1", 0, impl.HandleOk, "1x 2x 1 ; - - | 1 0 / - - | 1 0 / o1:2 - | 1 ; ; 1 0"},
		{"make 1 9", 0, impl.HandleOk, "1x 2x 1 9 ; - - | 1 0 / o9:3 - | 1 / o1:2 - | 1 ; ; 1 0"},
		{"drop 2 0 1", 2, impl.HandleOk, "1x 2x 1x 9 ; - - | 1 0 / o9:3 - | 1 / - - | 1 0 ; ; 1 0 2"},
	} {
		a := checkAct(t, w, actTold(c.act))
		want := worldAnswer{worldTold(c.text), c.told, c.code}
		if !sameWorldAnswer(a, want) {
			t.Fatalf("step %d, %s:\n%s, want\n%s", i, c.act, a, want)
		}
		w = a.w
	}
}

// Promise 16: any acts in a row, in worlds of one to MaxParts parts, held against a world of the tests' own after each.
func TestWorldsInARow(t *testing.T) {
	met := map[[2]int]int{}
	for seed := range int64(60) {
		r := rand.New(rand.NewSource(180 + seed))
		parts := 1 + int(seed)%mostParts
		got, mine := newWorld(t, parts), myWorldOf(parts)
		kinds := [][]int{manyMade, manyGiven, manyLent, allAlike}[seed/5%4]
		// Tables become full of borrows alone, and that takes long.
		for range []int{80, 80, 450, 300}[seed/5%4] {
			a := anyAct(r, mine)
			a.Kind = kinds[r.Intn(len(kinds))]
			told, code := mine.act(a)
			x, want := actAnswer(got, a), worldAnswer{mine.world(), told, code}
			if !sameWorldAnswer(x, want) {
				t.Fatalf("%s, %+v:\n%s, want\n%s", worldText(got), a, x, want)
			}
			met[[2]int{a.Kind, code}]++
			got = x.w
			checkGoodWorld(t, got, true)
			checkPromise(t, got)
			for thing := -1; thing <= len(mine.things); thing++ {
				want, good := mine.owners(thing)
				if l, ok := impl.OwnersOf(got, thing); ok != good || !slices.Equal(l, want) {
					t.Fatalf("%s: owners of %d are %v, %t, want %v, %t", worldText(got), thing, l, ok, want, good)
				}
			}
		}
	}
	for kind, codes := range map[int][]int{
		impl.DoMake: {impl.HandleOk, impl.HandleFull},
		impl.DoGive: {impl.HandleOk, impl.HandleBad, impl.HandleNone, impl.HandleKind, impl.HandleOwned, impl.HandleLent},
		impl.DoLend: {impl.HandleOk, impl.HandleBad, impl.HandleNone, impl.HandleKind, impl.HandleOwned, impl.HandleFull},
		impl.DoDrop: {impl.HandleOk, impl.HandleNone, impl.HandleKind, impl.HandleLent},
		impl.DoEnd:  {impl.HandleOk, impl.HandleNone},
	} {
		for _, code := range codes {
			if met[[2]int{kind, code}] < 10 {
				t.Errorf("kind %d: code %d was met %d times alone", kind, code, met[[2]int{kind, code}])
			}
		}
	}
}

// Promise 16: a play is its acts, one by one; what is refused is told and changes nothing.
func TestWorldsPlayed(t *testing.T) {
	for seed := range int64(150) {
		r := rand.New(rand.NewSource(300 + seed))
		parts := 1 + int(seed)%mostParts
		w, mine := newWorld(t, parts), myWorldOf(parts)
		kinds := [][]int{manyMade, manyGiven, manyLent, allAlike}[seed/5%4]
		var acts []impl.Act
		var want []int
		for range []int{0, 1, 2, 20, 99, mostActs}[seed%6] {
			a := anyAct(r, mine)
			if a.Kind = kinds[r.Intn(len(kinds))]; r.Intn(15) == 0 {
				a.Part = parts
			}
			mine.act(a)
			next, _, code := impl.DoAct(w, a)
			w, acts, want = next, append(acts, a), append(want, code)
		}
		kept := slices.Clone(acts)
		got, codes, ok := impl.PlayWorld(parts, acts)
		if !ok || !sameWorld(got, w) || !sameWorld(got, mine.world()) || !slices.Equal(codes, want) {
			t.Fatalf("seed %d: %s, %v, %t, want %s, %v", seed, worldText(got), codes, ok, worldText(w), want)
		}
		if !slices.Equal(acts, kept) {
			t.Fatal("acts have become", acts)
		}
	}
}

// Promise 16: a new world has nothing in it.
func TestNewWorlds(t *testing.T) {
	for parts := -3; parts <= 9; parts++ {
		w, ok := impl.NewWorld(parts)
		good := parts >= 1 && parts <= mostParts
		var want impl.World
		if good {
			want = myWorldOf(parts).world()
		}
		if ok != good || !sameWorld(w, want) || len(w.Tables) != max(0, len(want.Tables)) {
			t.Errorf("NewWorld(%d) = %s, %t", parts, worldText(w), ok)
		}
		checkGoodWorld(t, w, good)
		played, codes, playedOk := impl.PlayWorld(parts, nil)
		if playedOk != good || len(codes) > 0 || !sameWorld(played, want) {
			t.Errorf("PlayWorld(%d, nil) = %s, %v, %t", parts, worldText(played), codes, playedOk)
		}
		for _, thing := range []int{-1, 0, 1} {
			if l, ok := impl.OwnersOf(w, thing); ok || len(l) > 0 {
				t.Errorf("OwnersOf(%s, %d) = %v, %t", worldText(w), thing, l, ok)
			}
		}
	}
}

// Promise 16: a thing that is given from part to part is the last one's alone.
func TestThingsGivenRound(t *testing.T) {
	for parts := 2; parts <= mostParts; parts++ {
		w := doneAll(t, newWorld(t, parts), "make 0 3, make 1 3, make 0 4")
		at := 0
		for i := range 4 * parts {
			from, to := i%parts, (i+1)%parts
			a := checkAct(t, w, impl.Act{Kind: impl.DoGive, Part: from, At: at, To: to, N: 3})
			if a.code != impl.HandleOk || a.w.Tables[to].Slots[a.told] != own(3, 0) || a.w.Tables[from].Slots[at] != (impl.Handle{}) {
				t.Fatalf("given by %d to %d: %s", from, to, a)
			}
			for _, kind := range []int{impl.DoGive, impl.DoLend, impl.DoDrop} {
				other := impl.Act{Kind: kind, Part: from, At: at, To: to, N: 3}
				if b := checkAct(t, a.w, other); b.code != impl.HandleNone || !sameWorld(b.w, a.w) {
					t.Fatalf("what was given away: %s", b)
				}
			}
			w, at = a.w, a.told
			for thing, want := range []int{to, 1, 0} {
				if l, ok := impl.OwnersOf(w, thing); !ok || !slices.Equal(l, []int{want}) {
					t.Fatalf("%s: owners of %d are %v, %t", worldText(w), thing, l, ok)
				}
			}
		}
	}
}

// Promise 16: one that is lent stays one's own; after DoEnd the world is as it was ahead of the loan, but for a Slot that
// is free again where the other's table had to have one more.
func TestThingsLentAreBackAgain(t *testing.T) {
	for seed := range int64(300) {
		r := rand.New(rand.NewSource(500 + seed))
		mine := anyMyWorld(r, 60)
		w := mine.world()
		for thing, x := range mine.things {
			if to := (x.seat.part + 1 + r.Intn(mostParts)) % len(mine.slots); !x.gone && to != x.seat.part && !mine.isFull(to) {
				a := checkAct(t, w, impl.Act{Kind: impl.DoLend, Part: x.seat.part, At: x.seat.at, To: to, N: x.resource})
				checkLent(t, a, mine, thing)
				b := checkAct(t, a.w, impl.Act{Kind: impl.DoEnd, Part: r.Intn(len(mine.slots)), At: -7, To: -7, N: 77})
				back := copyOfWorld(w)
				if at := mine.slots[to]; a.told == at {
					back.Tables[to].Slots = append(back.Tables[to].Slots, impl.Handle{})
					back.Tables[to].Free = append(back.Tables[to].Free, at)
				}
				if b.code != impl.HandleOk || b.told != thing || !sameWorld(b.w, back) {
					t.Fatalf("%s:\n%s, want\n%s", worldText(a.w), b, worldText(back))
				}
				if c := checkAct(t, a.w, impl.Act{Kind: impl.DoDrop, Part: to, At: a.told, N: x.resource}); !sameWorldAnswer(b, c) {
					t.Fatalf("%s: its borrow dropped: %s, not %s", worldText(a.w), c, b)
				}
			}
		}
	}
}

// checkLent: of a thing that was just lent.
func checkLent(t *testing.T, a worldAnswer, mine myWorld, thing int) {
	t.Helper()
	x := mine.things[thing]
	if l, ok := impl.OwnersOf(a.w, thing); a.code != impl.HandleOk || !ok || !slices.Equal(l, []int{x.seat.part}) {
		t.Fatalf("%s: owners of %d are %v, %t", a, thing, l, ok)
	}
	if h := a.w.Tables[x.seat.part].Slots[x.seat.at]; h != lent(own(x.resource, thing), mine.loansOf(thing)+1) {
		t.Fatalf("%s: %s", a, handleText(h))
	}
	for to := range mine.slots {
		give := impl.Act{Kind: impl.DoGive, Part: x.seat.part, At: x.seat.at, To: to, N: x.resource}
		if b := checkAct(t, a.w, give); to != x.seat.part && b.code != impl.HandleLent {
			t.Fatalf("%s given: %s", worldText(a.w), b)
		}
	}
	if b := checkAct(t, a.w, impl.Act{Kind: impl.DoDrop, Part: x.seat.part, At: x.seat.at, N: x.resource}); b.code != impl.HandleLent {
		t.Fatalf("%s dropped: %s", worldText(a.w), b)
	}
}

// Promise 16: of several loans of one thing it is free to go when the last of them has ended.
func TestThingsLentOften(t *testing.T) {
	for _, times := range []int{1, 2, 3, 10, 40, 41, 120, 160} {
		w := doneAll(t, newWorld(t, mostParts), "make 0 7")
		for n := range times {
			a := checkAct(t, w, impl.Act{Kind: impl.DoLend, To: 1 + n%4, N: 7})
			if a.code != impl.HandleOk || a.told != n/4 || len(a.w.Calls) != n+1 || a.w.Calls[n] != (impl.Loan{To: 1 + n%4, At: n / 4}) {
				t.Fatalf("lent %d times: %s", n, a)
			}
			w = a.w
		}
		for n := times; n > 0; n-- {
			for _, act := range []string{"give 0 0 1 7", "drop 0 0 7"} {
				if a := checkAct(t, w, actTold(act)); a.code != impl.HandleLent || !sameWorld(a.w, w) {
					t.Fatalf("%s, lent %d times: %s", act, n, a)
				}
			}
			w = doneAll(t, w, "end")
		}
		for _, act := range []string{"give 0 0 1 7", "drop 0 0 7"} {
			if a := checkAct(t, w, actTold(act)); a.code != impl.HandleOk {
				t.Fatalf("%s, not lent any more: %s", act, a)
			}
		}
	}
}

// Promise 16: what was dropped has no owner, and its end is told once, whatever is done then.
func TestThingsDroppedHaveNoOwner(t *testing.T) {
	r := rand.New(rand.NewSource(181))
	w := newWorld(t, mostParts)
	var gone []int
	for n := range mostThings {
		w = doneAll(t, w, fmt.Sprintf("make %d %d", n%mostParts, n%10))
	}
	for _, thing := range r.Perm(mostThings) {
		part, at := thing%mostParts, thing/mostParts
		a := checkAct(t, w, impl.Act{Kind: impl.DoDrop, Part: part, At: at, N: thing % 10})
		gone = append(gone, thing)
		if a.code != impl.HandleOk || a.told != thing || !slices.Equal(a.w.Ended, gone) || a.w.Things[thing] != (impl.Thing{Resource: thing % 10}) {
			t.Fatalf("thing %d dropped: %s", thing, a)
		}
		if b := checkAct(t, a.w, impl.Act{Kind: impl.DoDrop, Part: part, At: at, N: thing % 10}); b.code != impl.HandleNone || !sameWorld(b.w, a.w) {
			t.Fatalf("thing %d dropped once more: %s", thing, b)
		}
		w = a.w
		checkPromise(t, w)
		for other := range mostThings {
			l, ok := impl.OwnersOf(w, other)
			if went := slices.Contains(gone, other); !ok || went && len(l) > 0 || !went && !slices.Equal(l, []int{other % mostParts}) {
				t.Fatalf("%s: owners of %d are %v, %t", worldText(w), other, l, ok)
			}
		}
	}
	for _, thing := range []int{-1, mostThings, mostThings + 1, math.MaxInt, math.MinInt} {
		if l, ok := impl.OwnersOf(w, thing); ok || len(l) > 0 {
			t.Errorf("OwnersOf %d: %v, %t", thing, l, ok)
		}
	}
}

// Promise 16: any good worlds, and each act of each of their numbers.
func TestAnyWorlds(t *testing.T) {
	for seed := range int64(60) {
		r := rand.New(rand.NewSource(700 + seed))
		mine := anyMyWorld(r, []int{8, 40}[seed%2])
		w := mine.world()
		checkGoodWorld(t, w, true)
		checkPromise(t, w)
		for part := range mine.slots {
			for at := -1; at <= mine.slots[part]; at++ {
				a := impl.Act{Part: part, At: at, To: r.Intn(len(mine.slots)+2) - 1, N: r.Intn(12) - 1}
				if thing, _ := mine.at(seat{part, at}); thing >= 0 && r.Intn(4) > 0 {
					a.N = mine.things[thing].resource
				}
				for a.Kind = 0; a.Kind <= 6; a.Kind++ {
					checkAct(t, w, a)
				}
			}
		}
		for thing := -1; thing <= len(w.Things); thing++ {
			checkOwners(t, w, thing)
		}
	}
}
