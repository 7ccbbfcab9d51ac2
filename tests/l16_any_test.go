package tests

import (
	"fmt"
	"math"
	"math/rand"
	"slices"
	"testing"

	"loop.example/g00209/impl"
)

// worlding: what the functions of chapter 16 are given.
type worlding struct {
	w     impl.World
	a     impl.Act
	thing int
	parts int
	acts  []impl.Act
}

// text: all of them as they answer.
func (g worlding) text() string {
	l, known := impl.OwnersOf(g.w, g.thing)
	first, ok := impl.NewWorld(g.parts)
	played, codes, done := impl.PlayWorld(g.parts, g.acts)
	return fmt.Sprintln(impl.GoodWorld(g.w), actAnswer(g.w, g.a), l, known, worldText(first), ok, worldText(played), codes, done)
}

// checkWorlding: they answer what they must, and write into nothing.
func checkWorlding(t *testing.T, g worlding) string {
	t.Helper()
	defer func() {
		if r := recover(); r != nil {
			t.Fatalf("panic at %s, %+v, %d, %d, %.500v: %v", worldText(g.w), g.a, g.thing, g.parts, g.acts, r)
		}
	}()
	kept := copyOfWorld(g.w)
	checkGoodWorld(t, g.w, wantGoodWorld(g.w))
	checkOwners(t, g.w, g.thing)
	checkAct(t, g.w, g.a)
	checkPlay(t, g.parts, g.acts)
	if !sameWorld(g.w, kept) {
		t.Fatalf("%s has become %s", worldText(kept), worldText(g.w))
	}
	return g.text()
}

func checkPlay(t *testing.T, parts int, acts []impl.Act) {
	t.Helper()
	kept := slices.Clone(acts)
	var want []int
	var world impl.World
	good := parts >= 1 && parts <= mostParts && len(acts) <= mostActs
	if good {
		mine := myWorldOf(parts)
		for _, a := range acts {
			_, code := mine.act(a)
			want = append(want, code)
		}
		world = mine.world()
	}
	w, codes, ok := impl.PlayWorld(parts, acts)
	if ok != good || !slices.Equal(codes, want) || !sameWorld(w, world) || !slices.Equal(acts, kept) {
		t.Fatalf("PlayWorld(%d, %.500v) = %s, %v, %t, want %s, %v", parts, acts, worldText(w), codes, ok, worldText(world), want)
	}
}

func anyNumber(r *rand.Rand) int {
	if r.Intn(2) == 0 {
		return r.Intn(4)
	}
	return anyPlace(r)
}

func spoiltAct(r *rand.Rand, a impl.Act) impl.Act {
	for _, field := range []*int{&a.Kind, &a.Part, &a.At, &a.To, &a.N} {
		if r.Intn(4) == 0 {
			*field = anyNumber(r)
		}
	}
	return a
}

// spoiltNumbers: one of them put in, taken out or changed.
func spoiltNumbers(r *rand.Rand, l []int) []int {
	i := r.Intn(len(l) + 1)
	switch {
	case i == len(l) || r.Intn(3) == 0:
		return slices.Insert(l, i, anyNumber(r))
	case r.Intn(2) == 0:
		return slices.Delete(l, i, i+1)
	}
	l[i] = anyNumber(r)
	return l
}

func spoiltThings(r *rand.Rand, l []impl.Thing) []impl.Thing {
	i := r.Intn(len(l) + 1)
	switch {
	case i == len(l) || r.Intn(4) == 0:
		return slices.Insert(l, i, impl.Thing{Resource: anyNumber(r), Alive: r.Intn(2) == 0})
	case r.Intn(3) == 0:
		return slices.Delete(l, i, i+1)
	case r.Intn(2) == 0:
		l[i].Alive = !l[i].Alive
	default:
		l[i].Resource = anyNumber(r)
	}
	return l
}

func spoiltLoans(r *rand.Rand, l []impl.Loan) []impl.Loan {
	i := r.Intn(len(l) + 1)
	switch {
	case i == len(l):
		return append(l, impl.Loan{From: anyNumber(r), Lent: anyNumber(r), To: anyNumber(r), At: anyNumber(r)})
	case r.Intn(6) == 0:
		return slices.Insert(l, r.Intn(len(l)+1), l[i])
	case r.Intn(6) == 0:
		return slices.Delete(l, i, i+1)
	case r.Intn(4) == 0:
		k := r.Intn(len(l))
		l[i], l[k] = l[k], l[i]
	default:
		*[]*int{&l[i].From, &l[i].Lent, &l[i].To, &l[i].At}[r.Intn(4)] = anyNumber(r)
	}
	return l
}

// spoiltWorld: one thing in it changed into anything; it may be as good as it was.
func spoiltWorld(r *rand.Rand, w impl.World) impl.World {
	w = copyOfWorld(w)
	part := r.Intn(len(w.Tables) + 1)
	switch k := r.Intn(8); {
	case k == 0:
		w.Ended = spoiltNumbers(r, w.Ended)
	case k == 1:
		w.Things = spoiltThings(r, w.Things)
	case k == 2:
		w.Calls = spoiltLoans(r, w.Calls)
	case k == 3 && part < len(w.Tables):
		w.Tables = slices.Delete(w.Tables, part, part+1)
	case k == 4:
		w.Tables = slices.Insert(w.Tables, part, impl.Table{})
	case k == 5 && part < len(w.Tables) && len(w.Tables[part].Slots) > 0:
		at := r.Intn(len(w.Tables[part].Slots))
		w.Tables[part].Slots[at] = [](impl.Handle){own(r.Intn(3), r.Intn(5)), lent(own(r.Intn(3), r.Intn(5)), 1), borrow(r.Intn(3), r.Intn(5), 1+r.Intn(3)), {}}[r.Intn(4)]
	case part < len(w.Tables):
		w.Tables[part] = spoiltTable(r, w.Tables[part])
	}
	return w
}

// anyWorlding: mostly a good world, with an act of it.
func anyWorlding(r *rand.Rand) worlding {
	mine := anyMyWorld(r, []int{6, 60}[r.Intn(2)])
	g := worlding{mine.world(), anyAct(r, mine), r.Intn(len(mine.things) + 1), r.Intn(8) - 1, nil}
	played := myWorldOf(max(1, min(g.parts, mostParts)))
	for range r.Intn(30) {
		a := anyAct(r, played)
		played.act(a)
		g.acts = append(g.acts, a)
	}
	switch r.Intn(6) {
	case 0:
		g.w = spoiltWorld(r, g.w)
	case 1:
		g.a = spoiltAct(r, g.a)
	case 2:
		g.thing, g.parts = anyNumber(r), anyNumber(r)
	case 3:
		if k := len(g.acts); k > 0 {
			g.acts[r.Intn(k)] = spoiltAct(r, g.acts[r.Intn(k)])
		}
	}
	return g
}

// oddWorlds: some that are not good, and some that hardly are.
func oddWorlds() []impl.World {
	one := []impl.Table{{Slots: []impl.Handle{own(1, 0)}}}
	two := []impl.Table{{Slots: []impl.Handle{lent(own(1, 0), 1)}}, {Slots: []impl.Handle{borrow(1, 0, 1)}}}
	alive, gone := []impl.Thing{{Resource: 1, Alive: true}}, []impl.Thing{{Resource: 1}}
	l := []impl.World{
		{}, {Tables: make([]impl.Table, 1)}, {Tables: make([]impl.Table, 5)}, {Tables: make([]impl.Table, 6)}, {Tables: make([]impl.Table, 10000)}, {Things: alive}, {Things: alive, Tables: one}, {Things: alive, Tables: two, Calls: []impl.Loan{{To: 1}}},
		{Things: make([]impl.Thing, 100000), Tables: one}, {Things: slices.Repeat(alive, 100000), Tables: one}, {Things: slices.Repeat(alive, 41), Tables: one}, {Things: alive, Tables: one, Ended: make([]int, 100000)}, {Things: gone, Tables: make([]impl.Table, 1), Ended: make([]int, 100000)},
		{Things: alive, Tables: two, Calls: slices.Repeat([]impl.Loan{{To: 1}}, 100000)}, {Things: alive, Tables: two, Calls: make([]impl.Loan, 100000)},
		{Things: gone, Tables: make([]impl.Table, 1), Ended: []int{math.MaxInt}}, {Things: gone, Tables: make([]impl.Table, 1), Ended: []int{math.MinInt}}, {Things: []impl.Thing{{Resource: math.MaxInt}}, Tables: make([]impl.Table, 1), Ended: []int{0}}, {Things: []impl.Thing{{Resource: math.MinInt}}, Tables: make([]impl.Table, 1), Ended: []int{0}},
	}
	for _, n := range []int{-1, 2, 40, 1000, math.MaxInt, math.MinInt} {
		for _, c := range []impl.Loan{{From: n, To: 1}, {Lent: n, To: 1}, {To: n}, {To: 1, At: n}, {From: n, Lent: n, To: n, At: n}} {
			l = append(l, impl.World{Things: alive, Tables: two, Calls: []impl.Loan{c}})
		}
	}
	for _, x := range oddTables() {
		l = append(l, impl.World{Tables: []impl.Table{x}}, impl.World{Things: slices.Repeat(alive, 2), Tables: []impl.Table{x, one[0]}})
	}
	return l
}

// Promise 19: every function answers at any arguments.
func TestWorldsAnswerAtAnything(t *testing.T) {
	for _, w := range oddWorlds() {
		for k, n := range anyInts() {
			for kind := -1; kind <= 6; kind++ {
				a := impl.Act{Kind: kind, Part: n * (k % 2), At: n * (k / 2 % 2), To: 1, N: n}
				checkWorlding(t, worlding{w, a, n, n, []impl.Act{a, {Kind: n, Part: n, At: n, To: n, N: n}}})
				// Long lists take long to copy.
				if len(w.Things)+len(w.Tables)+len(w.Calls)+len(w.Ended) > 1000 || len(w.Tables) > 0 && len(w.Tables[0].Slots)+len(w.Tables[0].Free) > 1000 {
					break
				}
			}
		}
	}
	r := rand.New(rand.NewSource(191))
	for range 10000 {
		g := anyWorlding(r)
		checkWorlding(t, g)
		g.w = spoiltWorld(r, g.w)
		checkWorlding(t, g)
	}
}

// Promise 16: each number of some small worlds changed by one, up and down: which of them are good then is said by the
// tests' own world alone.
func TestWorldsChangedByOne(t *testing.T) {
	for _, text := range []string{
		"1 ; o1:0+1 | / b1:0@1 | ; 0.0>1.0 ;", "1 2 2x ; o1:0+2 | / o2:1+1 b1:0@1 | / b1:0@2 b2:1@3 | ; 0.0>1.1 0.0>2.0 1.0>2.1 ; 2",
		"1 1x 1 1x ; - o1:0+1 o1:2+1 - | 3 0 / b1:0@1 - b1:2@2 | 1 ; 0.1>1.0 0.2>1.2 ; 3 1", "0 0 ; o0:1+2 o0:0 | / b0:1@1 b0:1@2 | ; 0.0>1.0 0.0>1.1 ;",
	} {
		w := worldTold(text)
		checkGoodWorld(t, w, true)
		change := func(n *int) {
			for _, by := range []int{-1, 1} {
				*n += by
				checkWorlding(t, worlding{w: w, a: impl.Act{Kind: impl.DoDrop, N: 1}})
				*n -= by
			}
		}
		turn := func(b *bool) {
			*b = !*b
			checkWorlding(t, worlding{w: w, a: impl.Act{Kind: impl.DoEnd}})
			*b = !*b
		}
		for i := range w.Things {
			change(&w.Things[i].Resource)
			turn(&w.Things[i].Alive)
		}
		for i := range w.Calls {
			l := &w.Calls[i]
			for _, n := range []*int{&l.From, &l.Lent, &l.To, &l.At} {
				change(n)
			}
		}
		for i := range w.Ended {
			change(&w.Ended[i])
		}
		for _, x := range w.Tables {
			for at := range x.Slots {
				h := &x.Slots[at]
				for _, n := range []*int{&h.Resource, &h.Rep, &h.Lends, &h.Scope} {
					change(n)
				}
				turn(&h.Own)
				turn(&h.Used)
			}
			for i := range x.Free {
				change(&x.Free[i])
			}
		}
	}
}

// roomyWorld: the same world, with something behind the length of each of its lists, and what tells whether that is there still.
func roomyWorld(w impl.World) (impl.World, func() string) {
	things, calls, ended := append(slices.Clone(w.Things), impl.Thing{Resource: -7, Alive: true}), append(slices.Clone(w.Calls), impl.Loan{From: -7, At: 7}), append(slices.Clone(w.Ended), -7, 7)
	tables := append(slices.Clone(w.Tables), impl.Table{Free: []int{-7}}, fullTable(3))
	var lists []any
	for part, x := range w.Tables {
		slots, free := append(slices.Clone(x.Slots), own(3, 3)), append(slices.Clone(x.Free), -7)
		tables[part] = impl.Table{Slots: slots[:len(x.Slots)], Free: free[:len(x.Free)]}
		lists = append(lists, slots, free)
	}
	lists = append(lists, things, calls, ended, tables)
	behind := func() string { return fmt.Sprint(lists...) }
	return impl.World{Things: things[:len(w.Things)], Tables: tables[:len(w.Tables)], Calls: calls[:len(w.Calls)], Ended: ended[:len(w.Ended)]}, behind
}

// Promise 19: what lies behind a list's length is neither read nor written.
func TestWorldsLeaveArguments(t *testing.T) {
	r := rand.New(rand.NewSource(192))
	for range 3000 {
		g := anyWorlding(r)
		roomy := g
		var behind func() string
		roomy.w, behind = roomyWorld(g.w)
		acts := append(slices.Clone(g.acts), impl.Act{Kind: impl.DoMake, N: 7})
		roomy.acts = acts[:len(g.acts)]
		ahead := behind() + fmt.Sprint(acts)
		if got, want := checkWorlding(t, roomy), checkWorlding(t, g); got != want {
			t.Fatalf("%s: %.500q, want %.500q", worldText(g.w), got, want)
		}
		if now := behind() + fmt.Sprint(acts); now != ahead {
			t.Fatalf("something behind an argument has changed: %.500q, was %.500q", now, ahead)
		}
	}
}

// spoil: writes into each list of a world, also behind its length.
func spoil(w impl.World) {
	for _, x := range w.Tables[:cap(w.Tables)] {
		for i := range x.Slots[:cap(x.Slots)] {
			x.Slots[:cap(x.Slots)][i] = impl.Handle{Rep: -7}
		}
		for i := range x.Free[:cap(x.Free)] {
			x.Free[:cap(x.Free)][i] = -7
		}
	}
	spoilRow(w.Tables, impl.Table{Free: []int{-7}})
	spoilRow(w.Things, impl.Thing{Resource: -7})
	spoilRow(w.Calls, impl.Loan{From: -7})
	spoilRow(w.Ended, -7)
}

func spoilRow[T any](l []T, x T) {
	for i := range l[:cap(l)] {
		l[:cap(l)][i] = x
	}
}

// Promise 19: answers are new memory, also with a code: what is written into one, also behind its lengths, is seen in
// neither the argument nor another answer.
func TestWorldsAreNew(t *testing.T) {
	r := rand.New(rand.NewSource(193))
	for range 3000 {
		g := anyWorlding(r)
		roomy, behind := roomyWorld(g.w)
		ahead := behind()
		one, two, want := actAnswer(roomy, g.a), actAnswer(roomy, g.a), wantActAnswer(g.w, g.a)
		spoil(one.w)
		if l, _ := impl.OwnersOf(roomy, g.thing); len(l) > 0 {
			spoilRow(l, -7)
		}
		if behind() != ahead || !sameWorldAnswer(two, want) || !sameWorldAnswer(actAnswer(roomy, g.a), want) {
			t.Fatalf("%s, %+v: an answer lies in other memory", worldText(g.w), g.a)
		}
		checkOwners(t, roomy, g.thing)
		spoil(roomy)
		if !sameWorldAnswer(two, want) {
			t.Fatalf("%s, %+v: an answer lies in the argument", worldText(g.w), g.a)
		}
	}
}

// Promise 19: a play's and a new world's answers are new memory.
func TestPlaysAreNew(t *testing.T) {
	r := rand.New(rand.NewSource(194))
	for range 500 {
		g := anyWorlding(r)
		g.parts = 1 + r.Intn(mostParts)
		acts := slices.Clone(g.acts)
		one, codes, _ := impl.PlayWorld(g.parts, acts)
		two, other, _ := impl.PlayWorld(g.parts, acts)
		first, _ := impl.NewWorld(g.parts)
		kept := copyOfWorld(two)
		spoil(one)
		spoil(first)
		spoilRow(codes, -7)
		if !slices.Equal(acts, g.acts) || !sameWorld(two, kept) || slices.Contains(other, -7) {
			t.Fatal("an answer lies in other memory")
		}
		spoilRow(acts, impl.Act{Kind: -7})
		if again, _ := impl.NewWorld(g.parts); !sameWorld(two, kept) || !sameWorld(again, myWorldOf(g.parts).world()) {
			t.Fatal("an answer lies in the argument, or is kept")
		}
		checkPlay(t, g.parts, g.acts)
	}
}

// checkApart: no two lists of a world share any memory: each is written into, also behind its length, and the others stay.
func checkApart(t *testing.T, w impl.World) {
	t.Helper()
	var rows [][]int
	for _, x := range w.Tables {
		rows = append(rows, x.Free)
	}
	rows = append(rows, w.Ended)
	for i, l := range rows {
		kept := copyOfWorld(w)
		l = l[:cap(l)]
		was := slices.Clone(l)
		spoilRow(l, -7)
		for k, other := range rows {
			if k != i && slices.Contains(other[:cap(other)], -7) {
				t.Fatalf("%s: two lists of numbers share memory", worldText(kept))
			}
		}
		copy(l, was)
	}
	for i, x := range w.Tables {
		slots := x.Slots[:cap(x.Slots)]
		was := slices.Clone(slots)
		spoilRow(slots, impl.Handle{Rep: -7})
		for k, other := range w.Tables {
			if k != i && slices.ContainsFunc(other.Slots[:cap(other.Slots)], func(h impl.Handle) bool { return h.Rep == -7 }) {
				t.Fatalf("%s: two tables share memory", worldText(w))
			}
		}
		copy(slots, was)
	}
}

// Promise 19: no two lists of one answer share any; a loan that has ended is not handed out behind those that last.
func TestWorldsOfListsApart(t *testing.T) {
	r := rand.New(rand.NewSource(195))
	for range 1000 {
		g := anyWorlding(r)
		a := actAnswer(g.w, g.a)
		checkApart(t, a.w)
		played, codes, _ := impl.PlayWorld(g.parts, g.acts)
		checkApart(t, played)
		spoilRow(codes, -7)
		if slices.Contains(played.Ended[:cap(played.Ended)], -7) {
			t.Fatal("codes and what has ended share memory")
		}
		for _, w := range []impl.World{a.w, played} {
			for _, l := range w.Calls[len(w.Calls):cap(w.Calls)] {
				if l != (impl.Loan{}) {
					t.Fatalf("%s: %+v lies behind its loans", worldText(w), l)
				}
			}
		}
	}
}

// Promise 19: the same call answers the same again, whatever was asked between, also at the same time.
func TestWorldsKeepNothing(t *testing.T) {
	r := rand.New(rand.NewSource(196))
	var all []worlding
	var first []string
	for range 1000 {
		g := anyWorlding(r)
		all, first = append(all, g), append(first, checkWorlding(t, g))
	}
	each := make(chan []string)
	for range 2 {
		go func() {
			var l []string
			for _, g := range all {
				l = append(l, g.text())
			}
			each <- l
		}()
	}
	for range 2 {
		if again := <-each; !slices.Equal(again, first) {
			t.Error("answers differ")
		}
	}
	for i, g := range slices.Backward(all) {
		if again := checkWorlding(t, g); again != first[i] {
			t.Fatalf("%.500q, then %.500q", first[i], again)
		}
	}
}
