package tests

import (
	"fmt"
	"math"
	"slices"
	"testing"

	"loop.example/g00209/impl"
)

// lentToPart: one thing of part 0, of Resource 1, lent so often to a part; then one thing each of parts 0 and 2, of Resource 2.
func lentToPart(t *testing.T, to int, times int) impl.World {
	t.Helper()
	w := doneAll(t, newWorld(t, 3), "make 0 1")
	for range times {
		w = doneAll(t, w, fmt.Sprintf("lend 0 0 %d 1", to))
	}
	return doneAll(t, w, "make 0 2, make 2 2")
}

// checkActs: each act tells the code, and no act but one that is done changes anything.
func checkActs(t *testing.T, w impl.World, codes map[string]int) {
	t.Helper()
	for text, code := range codes {
		a := checkAct(t, w, actTold(text))
		if a.code != code || code != impl.HandleOk && (!sameWorld(a.w, w) || a.told != 0) {
			t.Errorf("%s, %s:\n%s, want code %d", worldText(w), text, a, code)
		}
	}
}

// Promise 16: MaxThings things and one more; those that are gone count.
func TestWorldsOfManyThings(t *testing.T) {
	for parts := 1; parts <= mostParts; parts++ {
		w := newWorld(t, parts)
		for n := range mostThings {
			part := n % parts
			a := checkAct(t, w, impl.Act{Kind: impl.DoMake, Part: part, N: n % 10})
			if a.code != impl.HandleOk || len(a.w.Things) != n+1 || a.w.Things[n] != (impl.Thing{Resource: n % 10, Alive: true}) || a.w.Tables[part].Slots[a.told] != own(n%10, n) {
				t.Fatalf("thing %d: %s", n, a)
			}
			w = a.w
			if n%3 == 0 {
				w = doneAll(t, w, fmt.Sprintf("drop %d %d %d", part, a.told, n%10))
			}
		}
		for part := range parts {
			checkActs(t, w, map[string]int{fmt.Sprintf("make %d 1", part): impl.HandleFull, fmt.Sprintf("make %d 10", part): impl.HandleBad, fmt.Sprintf("make %d -1", part): impl.HandleBad})
		}
		w.Things, w.Ended = append(w.Things, impl.Thing{}), append(w.Ended, mostThings)
		checkGoodWorld(t, w, false)
	}
	// All of them in one table, and gone from there.
	w := newWorld(t, 1)
	for range mostThings {
		w = doneAll(t, w, "make 0 1")
	}
	checkActs(t, w, map[string]int{"make 0 1": impl.HandleFull})
	for at := range mostThings {
		w = doneAll(t, w, fmt.Sprintf("drop 0 %d 1", at))
	}
	checkActs(t, w, map[string]int{"make 0 1": impl.HandleFull, "end": impl.HandleNone})
}

// Promise 16: tables that are full: nothing is made there, given or lent to there; with one Slot that is free it is.
func TestWorldsWithFullTables(t *testing.T) {
	acts := []string{"make 1 3", "give 0 1 1 2", "lend 0 1 1 2", "lend 0 0 1 1", "give 2 0 1 2", "lend 2 0 1 2"}
	full := lentToPart(t, 1, mostHandles)
	for _, act := range acts {
		checkActs(t, full, map[string]int{act: impl.HandleFull})
		for _, ends := range []string{"end", "drop 1 39 1"} {
			free := doneAll(t, full, ends)
			a := checkAct(t, free, actTold(act))
			if a.code != impl.HandleOk || a.told != mostHandles-1 || len(a.w.Tables[1].Free) > 0 {
				t.Fatalf("%s, then %s: %s", ends, act, a)
			}
		}
		a := checkAct(t, lentToPart(t, 1, mostHandles-1), actTold(act))
		if a.code != impl.HandleOk || a.told != mostHandles-1 || len(a.w.Tables[1].Slots) != mostHandles {
			t.Fatalf("%s, with room for one: %s", act, a)
		}
	}
	checkActs(t, full, map[string]int{"make 0 3": impl.HandleOk, "make 2 3": impl.HandleOk, "give 0 1 2 2": impl.HandleOk, "lend 0 0 2 1": impl.HandleOk, "lend 2 0 0 2": impl.HandleOk, "end": impl.HandleOk})
	// What goes out of a table that is full needs no room there.
	w := doneAll(t, lentToPart(t, 2, mostHandles-1), "give 0 1 1 2")
	checkActs(t, w, map[string]int{"give 2 39 1 2": impl.HandleOk, "lend 2 39 1 2": impl.HandleOk, "give 1 0 2 2": impl.HandleFull, "drop 2 39 2": impl.HandleOk, "drop 2 38 1": impl.HandleOk})
}

// Promise 16: a Resource that is none is HandleBad where one is made; where one is asked for it is another one.
func TestWorldsOfResourcesAtEdges(t *testing.T) {
	w := doneAll(t, newWorld(t, 2), "make 0 0, make 0 9, lend 0 0 1 0, lend 0 1 1 9")
	for _, n := range []int{-1, 0, 1, 8, 9, 10, -9, 1 << 32, math.MaxInt, math.MinInt} {
		want := impl.HandleBad
		if n >= 0 && n <= 9 {
			want = impl.HandleOk
		}
		checkActs(t, w, map[string]int{fmt.Sprintf("make 0 %d", n): want, fmt.Sprintf("make 1 %d", n): want})
		for part := range 2 {
			for at, resource := range []int{0, 9} {
				for _, kind := range []int{impl.DoGive, impl.DoLend, impl.DoDrop} {
					a := checkAct(t, w, impl.Act{Kind: kind, Part: part, At: at, To: 1 - part, N: n})
					if other := n != resource; other != (a.code == impl.HandleKind) || other && !sameWorld(a.w, w) {
						t.Errorf("%s, kind %d at %d of %d: %s", worldText(w), kind, at, n, a)
					}
				}
			}
		}
		checkAct(t, w, impl.Act{Kind: impl.DoEnd, N: n})
	}
}

// Promise 16: a part that is none is HandleBad, of acts of all kinds; so is To that is Part, where a thing goes there.
func TestWorldsAskedOfParts(t *testing.T) {
	for parts := 1; parts <= mostParts; parts++ {
		w := newWorld(t, parts)
		for part := range parts {
			w = doneAll(t, w, fmt.Sprintf("make %d 1", part))
		}
		if parts > 1 {
			w = doneAll(t, w, "lend 0 0 1 1")
		}
		for _, part := range []int{-1, 0, parts - 1, parts, parts + 1, mostParts, -parts, math.MaxInt, math.MinInt} {
			for _, to := range []int{-1, 0, parts - 1, parts, mostParts, part, math.MaxInt, math.MinInt} {
				isPart, isTo := part >= 0 && part < parts, to >= 0 && to < parts && to != part
				for kind, bad := range map[int]bool{impl.DoMake: !isPart, impl.DoGive: !isPart || !isTo, impl.DoLend: !isPart || !isTo, impl.DoDrop: !isPart, impl.DoEnd: !isPart} {
					a := checkAct(t, w, impl.Act{Kind: kind, Part: part, To: to, N: 1})
					if bad != (a.code == impl.HandleBad) || bad && !sameWorld(a.w, w) {
						t.Errorf("%s, kind %d of %d to %d: %s", worldText(w), kind, part, to, a)
					}
				}
			}
		}
	}
}

// Promise 16: numbers that are none, the last Slot, one beyond, and one that is not Used.
func TestWorldsAskedAtEdges(t *testing.T) {
	w := doneAll(t, newWorld(t, 2), "make 0 1, make 0 1, make 0 1, make 0 1, drop 0 1 1, lend 0 0 1 1, lend 0 3 1 1, lend 0 0 1 1, drop 1 2 1")
	for part, used := range [][]int{{0, 2, 3}, {0, 1}} {
		for _, at := range []int{-1, 0, 1, 2, 3, 4, 39, 40, -5, 1 << 32, math.MaxInt, math.MinInt} {
			for _, kind := range []int{impl.DoGive, impl.DoLend, impl.DoDrop} {
				a := checkAct(t, w, impl.Act{Kind: kind, Part: part, At: at, To: 1 - part, N: 1})
				if none := !slices.Contains(used, at); none != (a.code == impl.HandleNone) || none && !sameWorld(a.w, w) {
					t.Errorf("%s, kind %d at %d of %d: %s", worldText(w), kind, at, part, a)
				}
			}
		}
	}
	for _, at := range []int{-1, 4, math.MaxInt, math.MinInt} {
		checkActs(t, w, map[string]int{fmt.Sprintf("lend 0 %d 1 1", at): impl.HandleNone})
	}
}

// Promise 16: as many loans as may last, which no table has room for one more of, and Lends at their most.
func TestWorldsOfManyLoans(t *testing.T) {
	w := doneAll(t, newWorld(t, mostParts), "make 0 1, make 1 2")
	for to := 2; to < mostParts; to++ {
		for range mostHandles {
			w = doneAll(t, w, fmt.Sprintf("lend 0 0 %d 1", to))
		}
	}
	for range mostHandles - 1 {
		w = doneAll(t, w, "lend 0 0 1 1, lend 1 0 0 2")
	}
	if len(w.Calls) != 198 || w.Tables[0].Slots[0] != lent(own(1, 0), 159) || w.Tables[1].Slots[0] != lent(own(2, 1), 39) {
		t.Fatal(worldText(w))
	}
	for to := range mostParts {
		for from := range 2 {
			if to != from {
				checkActs(t, w, map[string]int{fmt.Sprintf("lend %d 0 %d %d", from, to, from+1): impl.HandleFull, fmt.Sprintf("make %d 1", to): impl.HandleFull})
			}
		}
	}
	checkActs(t, w, map[string]int{"give 0 0 1 1": impl.HandleLent, "drop 0 0 1": impl.HandleLent, "drop 0 39 2": impl.HandleOk, "drop 1 39 1": impl.HandleLent})
	// One loan more, where no table has room for its borrow.
	more := copyOfWorld(w)
	more.Calls = append(more.Calls, impl.Loan{To: 2, At: 40})
	more.Tables[0].Slots[0].Lends++
	checkGoodWorld(t, more, false)
	more.Tables[2].Slots = append(more.Tables[2].Slots, borrow(1, 0, 199))
	checkGoodWorld(t, more, false)
	// All of them end, from the last one on, and nothing is left of them.
	for n := 198; n > 0; n-- {
		l := w.Calls[n-1]
		a := checkAct(t, w, impl.Act{Kind: impl.DoEnd})
		if a.code != impl.HandleOk || a.told != l.From || len(a.w.Calls) != n-1 || a.w.Tables[l.To].Slots[l.At] != (impl.Handle{}) {
			t.Fatalf("loan %d: %s", n, a)
		}
		w = a.w
	}
	checkActs(t, w, map[string]int{"end": impl.HandleNone, "give 0 0 1 1": impl.HandleOk, "drop 0 0 1": impl.HandleOk, "make 2 1": impl.HandleOk})
}

// Promise 16: a borrow goes by DoDrop where its loan is the last of all, and not otherwise; loans of other things count.
func TestBorrowsDropped(t *testing.T) {
	w := doneAll(t, newWorld(t, 3), "make 0 1, make 1 2, lend 0 0 1 1, lend 1 0 0 2, lend 0 0 2 1, lend 1 0 2 2")
	seats := []string{"1 1 1", "0 1 2", "2 0 1", "2 1 2"}
	for n := len(seats); n > 0; n-- {
		for i, s := range seats[:n] {
			want := worldAnswer{w, 0, impl.HandleLent}
			if i == n-1 {
				want = worldAnswer{doneAll(t, w, "end"), i % 2, impl.HandleOk}
			}
			if a := checkAct(t, w, actTold("drop "+s)); !sameWorldAnswer(a, want) {
				t.Errorf("drop %s:\n%s, want\n%s", s, a, want)
			}
		}
		w = doneAll(t, w, "drop "+seats[n-1])
		checkActs(t, w, map[string]int{"drop " + seats[n-1]: impl.HandleNone})
	}
	checkActs(t, w, map[string]int{"end": impl.HandleNone})
}

// Promise 16: DoEnd without a loan is HandleNone, but of a part that is none HandleBad; whatever else stands in it is not asked for.
func TestWorldsWithoutLoans(t *testing.T) {
	for _, acts := range []string{"make 0 1", "make 0 1, drop 0 0 1", "make 0 1, lend 0 0 1 1, end", "make 0 1, lend 0 0 1 1, drop 1 0 1", "make 0 1, give 0 0 1 1"} {
		w := doneAll(t, newWorld(t, 2), acts)
		for _, n := range anyInts() {
			for part, code := range map[int]int{-1: impl.HandleBad, 0: impl.HandleNone, 1: impl.HandleNone, 2: impl.HandleBad} {
				if a := checkAct(t, w, impl.Act{Kind: impl.DoEnd, Part: part, At: n, To: n, N: n}); a.code != code || a.told != 0 || !sameWorld(a.w, w) {
					t.Errorf("%s: DoEnd of %d, %d: %s", acts, part, n, a)
				}
			}
		}
	}
}

// Promise 16: MaxWorldSteps acts and one more, of whatever kind.
func TestWorldsPlayedLong(t *testing.T) {
	for _, a := range []impl.Act{{Kind: impl.DoMake}, {Kind: impl.DoEnd}, {}, {Kind: impl.DoMake, Part: -1}} {
		for _, many := range []int{0, 1, 40, 41, 99, 100, 101, 102, 1000, 100000} {
			w, codes, ok := impl.PlayWorld(2, slices.Repeat([]impl.Act{a}, many))
			if many > mostActs {
				if ok || len(codes) > 0 || !sameWorld(w, impl.World{}) {
					t.Errorf("%d times %+v: %s, %v, %t", many, a, worldText(w), codes, ok)
				}
				continue
			}
			mine, want := myWorldOf(2), []int(nil)
			for range many {
				_, code := mine.act(a)
				want = append(want, code)
			}
			if !ok || !slices.Equal(codes, want) || !sameWorld(w, mine.world()) {
				t.Errorf("%d times %+v: %s, %v, %t, want %v", many, a, worldText(w), codes, ok, want)
			}
		}
	}
	for _, parts := range []int{-1, 0, 6, math.MaxInt, math.MinInt} {
		for _, many := range []int{0, 1, 100, 101} {
			if w, codes, ok := impl.PlayWorld(parts, make([]impl.Act, many)); ok || len(codes) > 0 || !sameWorld(w, impl.World{}) {
				t.Errorf("%d parts, %d acts: %s, %v, %t", parts, many, worldText(w), codes, ok)
			}
		}
	}
}

// Promise 16: worlds that are not good in each of the ways that the document's sentence names, beside ones that are.
func TestWorldsThatAreNotGood(t *testing.T) {
	for text, good := range map[string]bool{
		// parts
		"; | ; ;": true, "; | / | / | / | / | ; ;": true, "; | / | / | / | / | / | ; ;": false,
		// things and their Resource
		"0 9 ; o0:0 o9:1 | ; ;": true, "-1 ; o-1:0 | ; ;": false, "10 ; o10:0 | ; ;": false, "0x 9x ; | ; ; 0 1": true, "-1x ; | ; ; 0": false, "10x ; | ; ; 0": false,
		// a table that is not good
		"1 ; o1:0 - | 1 ; ;": true, "1 ; o1:0 - | ; ;": false, "1 ; o1:0 | 0 ; ;": false, "1 ; o1:0@1 | ; ;": false, "1 ; o1:0 | / - | ; ;": false, "1 ; o1:0 | / - | 0 0 ; ;": false, "1 ; o1:0 | / - - | 1 0 ; ;": true,
		// an own handle of no thing, of one that is not Alive, of another Resource
		"; o1:0 | ; ;": false, "1 ; o1:1 | ; ;": false, "1 ; o1:0 o1:1 | ; ;": false, "1 ; o1:0 | / o1:40 | ; ;": false, "1 ; o1:0 | / o1:1000000 | ; ;": false,
		"1x ; o1:0 | ; ; 0": false, "1x ; o1:0 | ; ;": false, "1x 1 ; o1:0 o1:1 | ; ; 0": false, "1 ; o2:0 | ; ;": false, "1 2 ; o1:1 o2:0 | ; ;": false, "1 2 ; o2:1 o1:0 | ; ;": true,
		// two own handles of one thing
		"1 ; o1:0 o1:0 | ; ;": false, "1 ; o1:0 | / o1:0 | ; ;": false, "1 1 ; o1:0 o1:0 | / o1:1 | ; ;": false, "1 1 ; o1:0 o1:0 | ; ;": false,
		// a thing that is Alive without a handle
		"1 ; | ; ;": false, "1 1 ; o1:0 | ; ;": false, "1 1 ; o1:1 | ; ;": false, "1 ; - | 0 ; ;": false, "1 ; | / b1:0@1 | ; ;": false,
		// Ended: one twice, one Alive, one that lacks, one that is none, in any order
		"1x ; | ; ; 0": true, "1x ; | ; ; 0 0": false, "1x 1x ; | ; ; 0 0": false, "1x 1x ; | ; ; 0 1": true, "1x 1x ; | ; ; 1 0": true, "1x 1x ; | ; ; 0 1 0": false, "1x 1x ; | ; ; 1 1": false,
		"1 ; o1:0 | ; ; 0": false, "1x 1 ; o1:1 | ; ; 0 1": false, "1x 1 ; o1:1 | ; ; 1": false, "1x 1 ; o1:1 | ; ; 0": true,
		"1x ; | ; ;": false, "1x 1x ; | ; ; 0": false, "1x 1x ; | ; ; 1": false, "1x ; | ; ; 1": false, "1x ; | ; ; -1": false, "1x ; | ; ; 0 1": false, "1x ; | ; ; 0 -1": false, "; | ; ; 0": false, "1x 1x ; | ; ; 0 2": false, "1x ; | ; ; 40": false,
	} {
		w := worldTold(text)
		checkGoodWorld(t, w, good)
		checkRefused(t, w, good)
	}
	checkGoodWorld(t, impl.World{}, false)
	checkRefused(t, impl.World{}, false)
	checkGoodWorld(t, impl.World{Tables: []impl.Table{}}, false)
	checkGoodWorld(t, impl.World{Things: []impl.Thing{}, Tables: []impl.Table{{}}, Calls: []impl.Loan{}, Ended: []int{}}, true)
}

// Promise 16: loans that are not, in each of the ways that the document's sentence names, beside ones that are.
func TestLoansThatAreNotGood(t *testing.T) {
	for text, good := range map[string]bool{
		"1 ; o1:0+1 | / b1:0@1 | ; 0.0>1.0 ;": true, "1 ; o1:0+2 | / b1:0@1 b1:0@2 | ; 0.0>1.0 0.0>1.1 ;": true, "1 ; o1:0+2 | / b1:0@2 b1:0@1 | ; 0.0>1.1 0.0>1.0 ;": true, "1 ; b1:0@1 | / o1:0+1 | ; 1.0>0.0 ;": true,
		"1 2 ; o1:0+1 o2:1+1 | / b2:1@1 b1:0@2 | ; 0.1>1.0 0.0>1.1 ;": true, "1 2x 1 ; o1:0+1 b1:2@2 | / b1:0@1 o1:2+1 | ; 0.0>1.0 1.1>0.1 ; 1": true,

		// parts that are none, or one
		"1 ; o1:0+1 | / b1:0@1 | ; -1.0>1.0 ;": false, "1 ; o1:0+1 | / b1:0@1 | ; 2.0>1.0 ;": false, "1 ; o1:0+1 | / b1:0@1 | ; 0.0>-1.0 ;": false, "1 ; o1:0+1 | / b1:0@1 | ; 0.0>2.0 ;": false, "1 ; o1:0+1 | / b1:0@1 | ; 0.0>5.0 ;": false, "1 ; o1:0+1 | / b1:0@1 | ; 5.0>1.0 ;": false,
		"1 ; o1:0+1 b1:0@1 | ; 0.0>0.1 ;": false, "1 ; o1:0+1 b1:0@1 | / | ; 0.0>0.1 ;": false, "1 ; o1:0+1 | / b1:0@1 | ; 1.0>1.0 ;": false, "1 ; o1:0+1 | / b1:0@1 | ; 0.0>0.0 ;": false,
		// Lent or At is none, or is not Used
		"1 ; o1:0+1 | / b1:0@1 | ; 0.-1>1.0 ;": false, "1 ; o1:0+1 | / b1:0@1 | ; 0.1>1.0 ;": false, "1 ; o1:0+1 | / b1:0@1 | ; 0.40>1.0 ;": false, "1 ; o1:0+1 - | 1 / b1:0@1 | ; 0.1>1.0 ;": false,
		"1 ; o1:0+1 | / b1:0@1 | ; 0.0>1.-1 ;": false, "1 ; o1:0+1 | / b1:0@1 | ; 0.0>1.1 ;": false, "1 ; o1:0+1 | / b1:0@1 | ; 0.0>1.40 ;": false, "1 ; o1:0+1 | / b1:0@1 - | 1 ; 0.0>1.1 ;": false, "1 ; o1:0+1 | / | ; 0.0>1.0 ;": false, "1 ; o1:0+1 | / - | 0 ; 0.0>1.0 ;": false,
		"0 ; o0:0+1 | / b0:0@1 | ; 0.0>1.0 ;": true, "0 ; o0:0+1 | / b0:0@1 | ; 0.-1>1.0 ;": false, "0 ; o0:0+1 | / b0:0@1 | ; 0.1>1.0 ;": false, "0 ; o0:0+1 | / b0:0@1 | ; 0.40>1.0 ;": false, "0 ; o0:0 | / b0:0@1 | ; 0.-1>1.0 ;": false, "0 ; o0:0 - | 1 / b0:0@1 | ; 0.1>1.0 ;": false, "0 ; o0:0 | / b0:0@1 | ; 0.40>1.0 ;": false,
		"0 ; o0:0 | / b0:0@1 | ; 2.0>1.0 ;": false, "0 ; o0:0+1 | / | ; 0.0>1.0 ;": false, "0 ; o0:0+1 | / - | 0 ; 0.0>1.0 ;": false, "0 ; o0:0 | / - | 0 ; 0.1>1.0 ;": false, "0x ; - | 0 / b0:0@1 | ; 0.0>1.0 ; 0": false, "; | / b0:0@1 | ; 0.0>1.0 ;": false,
		// a borrow where an own one must be, an own one where a borrow must be
		"1 ; o1:0+1 | / b1:0@1+1 | / b1:0@2 | ; 0.0>1.0 1.0>2.0 ;": false, "1 ; o1:0+1 | / b1:0@1 | / b1:0@2 | ; 0.0>1.0 1.0>2.0 ;": false, "1 ; o1:0+1 | / b1:0@1 | ; 1.0>0.0 ;": false,
		"1 1 ; o1:0+1 | / o1:1 | ; 0.0>1.0 ;": false, "1 1 ; o1:0+1 | / o1:1 b1:0@1 | ; 0.0>1.0 ;": false, "1 1 ; o1:0+1 | / o1:1 b1:0@1 | ; 0.0>1.1 ;": true,
		// of another Resource or Rep
		"1 ; o1:0+1 | / b2:0@1 | ; 0.0>1.0 ;": false, "1 ; o1:0+1 | / b0:0@1 | ; 0.0>1.0 ;": false, "1 ; o1:0+1 | / b1:1@1 | ; 0.0>1.0 ;": false, "1 1 ; o1:0+1 o1:1 | / b1:1@1 | ; 0.0>1.0 ;": false, "1 1 ; o1:0+1 o1:1 | / b1:1@1 | ; 0.1>1.0 ;": false, "1 1 ; o1:0 o1:1+1 | / b1:1@1 | ; 0.1>1.0 ;": true,
		"1 2 ; o1:0+1 o2:1 | / b2:1@1 | ; 0.0>1.0 ;": false, "1 2 ; o1:0+1 o2:1+1 | / b1:0@1 b2:1@2 | ; 0.1>1.0 0.0>1.1 ;": false, "1x 1 ; o1:1+1 | / b1:0@1 | ; 0.0>1.0 ; 0": false,
		// with another Scope
		"1 ; o1:0+1 | / b1:0@2 | ; 0.0>1.0 ;": false, "1 ; o1:0+1 | / b1:0@1000 | ; 0.0>1.0 ;": false, "1 ; o1:0+2 | / b1:0@1 b1:0@2 | ; 0.0>1.1 0.0>1.0 ;": false, "1 ; o1:0+2 | / b1:0@1 b1:0@1 | ; 0.0>1.0 0.0>1.1 ;": false, "1 ; o1:0+2 | / b1:0@1 b1:0@3 | ; 0.0>1.0 0.0>1.1 ;": false, "1 ; o1:0+2 | / b1:0@2 b1:0@3 | ; 0.0>1.0 0.0>1.1 ;": false,
		// a borrow that is no loan's, or two loans'
		"1 ; o1:0 | / b1:0@1 | ; ;": false, "1 ; o1:0+1 | / b1:0@1 | ; ;": false, "; | / b1:0@1 | ; ;": false, "1 ; o1:0+1 | / b1:0@1 b1:0@2 | ; 0.0>1.0 ;": false, "1 ; o1:0+1 | / b1:0@1 | / b1:0@1 | ; 0.0>1.0 ;": false, "1x ; | / b1:0@1 | ; ; 0": false,
		"1 ; o1:0+2 | / b1:0@1 | ; 0.0>1.0 0.0>1.0 ;": false, "1 ; o1:0+2 | / b1:0@2 | ; 0.0>1.0 0.0>1.0 ;": false,
		// Lends that are not as many as loans tell
		"1 ; o1:0 | / b1:0@1 | ; 0.0>1.0 ;": false, "1 ; o1:0+2 | / b1:0@1 | ; 0.0>1.0 ;": false, "1 ; o1:0+1 | ; ;": false, "1 ; o1:0+1000 | ; ;": false, "1 ; o1:0+1 | / b1:0@1 b1:0@2 | ; 0.0>1.0 0.0>1.1 ;": false, "1 ; o1:0+3 | / b1:0@1 b1:0@2 | ; 0.0>1.0 0.0>1.1 ;": false,
		"1 1 ; o1:0+1 o1:1+1 | / b1:0@1 b1:0@2 | ; 0.0>1.0 0.0>1.1 ;": false, "1 1 ; o1:0+1 o1:1+1 | / b1:0@1 b1:1@2 | ; 0.0>1.0 0.1>1.1 ;": true, "1 ; o1:0+1 | / b1:0@1+1 | ; 0.0>1.0 ;": false, "1 ; o1:0+2 | / b1:0@1 b1:0@2+1 | ; 0.0>1.0 0.0>1.1 ;": false,
	} {
		w := worldTold(text)
		checkGoodWorld(t, w, good)
		checkRefused(t, w, good)
	}
}

// checkRefused: of a world that is not good all is HandleBad, whatever is asked, and the world that is told is the zero one.
func checkRefused(t *testing.T, w impl.World, good bool) {
	t.Helper()
	for _, act := range []string{"make 0 1", "make 0 10", "make 7 1", "give 0 0 1 1", "lend 0 0 1 1", "drop 0 0 1", "drop 1 0 1", "end"} {
		if a := checkAct(t, w, actTold(act)); !good && !sameWorldAnswer(a, worldAnswer{code: impl.HandleBad}) {
			t.Errorf("%s: %s: %s", worldText(w), act, a)
		}
	}
	for thing := -1; thing < 3; thing++ {
		checkOwners(t, w, thing)
		if l, ok := impl.OwnersOf(w, thing); !good && (ok || len(l) > 0) {
			t.Errorf("%s: owners of %d are %v, %t", worldText(w), thing, l, ok)
		}
	}
}

// Promise 16: which code is first where several could be told.
func TestWorldCodesInOrder(t *testing.T) {
	full := lentToPart(t, 1, mostHandles)
	// a part that is none, and To that is Part, ahead of what is asked for there
	checkActs(t, full, map[string]int{
		"make 3 10": impl.HandleBad, "make 1 10": impl.HandleBad, "make 1 -1": impl.HandleBad, "make 3 1": impl.HandleBad,
		"give 3 0 3 1": impl.HandleBad, "give 0 0 3 9": impl.HandleBad, "give 0 7 0 1": impl.HandleBad, "give 0 0 0 9": impl.HandleBad, "give 0 0 0 1": impl.HandleBad, "give 1 0 1 1": impl.HandleBad, "give 0 7 3 1": impl.HandleBad,
		"lend 0 7 0 1": impl.HandleBad, "lend 0 0 0 9": impl.HandleBad, "lend 0 0 0 1": impl.HandleBad, "lend 1 0 1 1": impl.HandleBad, "lend 0 7 3 1": impl.HandleBad, "lend 0 0 -1 9": impl.HandleBad,
		"drop 3 0 1": impl.HandleBad, "drop -1 7 9": impl.HandleBad,
	})
	// HandleNone, HandleKind, HandleOwned, HandleLent, HandleFull
	checkActs(t, full, map[string]int{
		"give 0 7 1 1": impl.HandleNone, "give 0 7 1 9": impl.HandleNone, "give 0 0 1 9": impl.HandleKind, "give 1 0 2 9": impl.HandleKind, "give 1 0 2 1": impl.HandleOwned, "give 0 0 1 1": impl.HandleLent, "give 0 1 1 2": impl.HandleFull, "give 0 1 1 1": impl.HandleKind,
		"lend 0 7 1 1": impl.HandleNone, "lend 0 7 1 9": impl.HandleNone, "lend 0 0 1 9": impl.HandleKind, "lend 1 0 2 9": impl.HandleKind, "lend 1 0 2 1": impl.HandleOwned, "lend 0 0 1 1": impl.HandleFull, "lend 0 1 1 2": impl.HandleFull, "lend 0 0 2 1": impl.HandleOk,
		"drop 0 7 9": impl.HandleNone, "drop 0 0 9": impl.HandleKind, "drop 1 0 9": impl.HandleKind, "drop 1 39 9": impl.HandleKind, "drop 0 0 1": impl.HandleLent, "drop 1 0 1": impl.HandleLent, "drop 1 39 1": impl.HandleOk,
	})
	// HandleOwned ahead of HandleFull: a borrow, to a table that is full
	both := doneAll(t, full, "lend 0 0 2 1")
	checkActs(t, both, map[string]int{"give 2 1 1 1": impl.HandleOwned, "lend 2 1 1 1": impl.HandleOwned, "give 2 1 1 2": impl.HandleKind, "lend 2 1 1 2": impl.HandleKind, "lend 2 2 1 2": impl.HandleNone})
	// a world that is not good, ahead of all
	both.Ended = []int{0}
	for _, act := range []string{"make 3 10", "give 0 7 0 1", "lend 1 0 2 1", "drop 0 7 9", "end", "make 2 1"} {
		if a := checkAct(t, both, actTold(act)); !sameWorldAnswer(a, worldAnswer{code: impl.HandleBad}) {
			t.Errorf("%s: %s", act, a)
		}
	}
}

// Promise 16: the kinds and the limits are those that the document tells.
func TestWorldConstants(t *testing.T) {
	got := fmt.Sprint(impl.MaxThings, impl.MaxParts, impl.MaxWorldSteps, impl.DoMake, impl.DoGive, impl.DoLend, impl.DoDrop, impl.DoEnd)
	if got != "40 5 100 1 2 3 4 5" {
		t.Error(got)
	}
}
