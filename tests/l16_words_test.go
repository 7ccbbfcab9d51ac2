package tests

import (
	"fmt"
	"math/rand"
	"slices"
	"strconv"
	"strings"
	"testing"

	"loop.example/g00209/impl"
)

// mostThings, mostParts, mostActs: told by the document.
const (
	mostThings = 40
	mostParts  = 5
	mostActs   = 100
)

func numbersTold(s string) []int {
	var l []int
	for _, word := range strings.Fields(s) {
		n, _ := strconv.Atoi(word)
		l = append(l, n)
	}
	return l
}

// worldTold: four pieces with ";" between: the things by their Resource, with "x" behind one that is not Alive; the tables
// as tableTold reads them, with "/" between; the loans, "0.1>2.3" being one of Slot 1 of part 0, a borrow in Slot 3 of part 2;
// the things whose end was told.
func worldTold(s string) impl.World {
	pieces := strings.Split(s, ";")
	var w impl.World
	for _, word := range strings.Fields(pieces[0]) {
		resource, gone := strings.CutSuffix(word, "x")
		n, _ := strconv.Atoi(resource)
		w.Things = append(w.Things, impl.Thing{Resource: n, Alive: !gone})
	}
	for _, table := range strings.Split(pieces[1], "/") {
		w.Tables = append(w.Tables, tableTold(table))
	}
	for _, word := range strings.Fields(pieces[2]) {
		n := numbersTold(strings.NewReplacer(".", " ", ">", " ").Replace(word))
		w.Calls = append(w.Calls, impl.Loan{From: n[0], Lent: n[1], To: n[2], At: n[3]})
	}
	w.Ended = numbersTold(pieces[3])
	return w
}

// worldText: as worldTold reads it, but cut where it is long.
func worldText(w impl.World) string {
	var s string
	for _, x := range w.Things[:min(len(w.Things), 2*mostThings)] {
		s += strconv.Itoa(x.Resource)
		if !x.Alive {
			s += "x"
		}
		s += " "
	}
	s += ";"
	for part, x := range w.Tables[:min(len(w.Tables), 2*mostParts)] {
		if part > 0 {
			s += "/"
		}
		s += " " + tableText(x) + " "
	}
	s += ";"
	for _, l := range w.Calls[:min(len(w.Calls), 5*mostHandles)] {
		s += fmt.Sprintf(" %d.%d>%d.%d", l.From, l.Lent, l.To, l.At)
	}
	return s + " ; " + short(w.Ended)
}

// actTold: "make P N", "give P AT TO N", "lend P AT TO N", "drop P AT N", "end".
func actTold(s string) impl.Act {
	word, rest, _ := strings.Cut(s, " ")
	n := append(numbersTold(rest), 0, 0, 0, 0)
	switch word {
	case "make":
		return impl.Act{Kind: impl.DoMake, Part: n[0], N: n[1]}
	case "give":
		return impl.Act{Kind: impl.DoGive, Part: n[0], At: n[1], To: n[2], N: n[3]}
	case "lend":
		return impl.Act{Kind: impl.DoLend, Part: n[0], At: n[1], To: n[2], N: n[3]}
	case "drop":
		return impl.Act{Kind: impl.DoDrop, Part: n[0], At: n[1], N: n[2]}
	case "end":
		return impl.Act{Kind: impl.DoEnd}
	}
	panic("no act: " + s)
}

func actsTold(s string) []impl.Act {
	var l []impl.Act
	for _, act := range strings.Split(s, ",") {
		l = append(l, actTold(strings.TrimSpace(act)))
	}
	return l
}

func copyOfWorld(w impl.World) impl.World {
	w.Things, w.Tables, w.Calls, w.Ended = slices.Clone(w.Things), slices.Clone(w.Tables), slices.Clone(w.Calls), slices.Clone(w.Ended)
	for part, x := range w.Tables {
		w.Tables[part] = copyOfTable(x)
	}
	return w
}

func sameWorld(a impl.World, b impl.World) bool {
	return slices.Equal(a.Things, b.Things) && slices.EqualFunc(a.Tables, b.Tables, sameTable) && slices.Equal(a.Calls, b.Calls) && slices.Equal(a.Ended, b.Ended)
}

// seat: a Slot of a part.
type seat struct{ part, at int }

// myThing: one that is gone has no seat that is asked for.
type myThing struct {
	resource int
	gone     bool
	seat     seat
}

type myLoan struct {
	thing int
	seat  seat
}

// myWorld: a world of the tests' own. It says of each thing where it is, of each loan where its borrow is, and of each part
// how many Slots it has and which of them are free: what the Slots have in them is worked out from that.
type myWorld struct {
	things []myThing
	loans  []myLoan
	ended  []int
	slots  []int
	free   [][]int
}

func (m myWorld) copied() myWorld {
	m.things, m.loans, m.ended, m.slots, m.free = slices.Clone(m.things), slices.Clone(m.loans), slices.Clone(m.ended), slices.Clone(m.slots), slices.Clone(m.free)
	for part, l := range m.free {
		m.free[part] = slices.Clone(l)
	}
	return m
}

func myWorldOf(parts int) myWorld {
	return myWorld{slots: make([]int, parts), free: make([][]int, parts)}
}

func (m myWorld) isSeat(s seat) bool {
	return s.part >= 0 && s.part < len(m.slots) && s.at >= 0 && s.at < m.slots[s.part]
}

// loansOf: how many loans of a thing last.
func (m myWorld) loansOf(thing int) int {
	n := 0
	for _, l := range m.loans {
		if l.thing == thing {
			n++
		}
	}
	return n
}

// world: all written out.
func (m myWorld) world() impl.World {
	var w impl.World
	for part, n := range m.slots {
		w.Tables = append(w.Tables, impl.Table{Slots: make([]impl.Handle, n), Free: slices.Clone(m.free[part])})
	}
	for thing, x := range m.things {
		w.Things = append(w.Things, impl.Thing{Resource: x.resource, Alive: !x.gone})
		if !x.gone {
			w.Tables[x.seat.part].Slots[x.seat.at] = lent(own(x.resource, thing), m.loansOf(thing))
		}
	}
	for i, l := range m.loans {
		x := m.things[l.thing]
		w.Tables[l.seat.part].Slots[l.seat.at] = borrow(x.resource, l.thing, i+1)
		w.Calls = append(w.Calls, impl.Loan{From: x.seat.part, Lent: x.seat.at, To: l.seat.part, At: l.seat.at})
	}
	w.Ended = slices.Clone(m.ended)
	return w
}

// myWorldFrom: what a world seems to say, and whether that written out is the same again: only then it is good.
func myWorldFrom(w impl.World) (myWorld, bool) {
	if len(w.Tables) < 1 || len(w.Tables) > mostParts || len(w.Things) > mostThings {
		return myWorld{}, false
	}
	m := myWorldOf(len(w.Tables))
	for _, x := range w.Things {
		m.things = append(m.things, myThing{resource: x.Resource, gone: !x.Alive, seat: seat{-1, -1}})
	}
	for part, x := range w.Tables {
		if !wantTable(x) {
			return myWorld{}, false
		}
		m.slots[part], m.free[part] = len(x.Slots), slices.Clone(x.Free)
		for at, h := range x.Slots {
			if h.Own && h.Rep < len(m.things) {
				m.things[h.Rep].seat = seat{part, at}
			}
		}
	}
	return m, m.seatLoans(w.Calls) && m.isWhole() && m.hasEnds(w.Ended) && sameWorld(m.world(), w)
}

// seatLoans: false where a loan can not be one whatever else there is.
func (m *myWorld) seatLoans(calls []impl.Loan) bool {
	for _, l := range calls {
		thing := slices.IndexFunc(m.things, func(x myThing) bool { return x.seat == seat{l.From, l.Lent} })
		to := seat{l.To, l.At}
		twice := slices.ContainsFunc(m.loans, func(x myLoan) bool { return x.seat == to })
		if thing < 0 || l.From == l.To || !m.isSeat(to) || twice {
			return false
		}
		m.loans = append(m.loans, myLoan{thing, to})
	}
	return true
}

// isWhole: whether each thing has a Resource and, if it is not gone, a seat.
func (m *myWorld) isWhole() bool {
	for _, x := range m.things {
		if x.resource < 0 || x.resource > 9 || !x.gone && !m.isSeat(x.seat) {
			return false
		}
	}
	for _, l := range m.loans {
		if m.things[l.thing].gone {
			return false
		}
	}
	return true
}

func (m *myWorld) hasEnds(ended []int) bool {
	var gone []int
	for thing, x := range m.things {
		if x.gone {
			gone = append(gone, thing)
		}
	}
	m.ended = slices.Clone(ended)
	return slices.Equal(slices.Sorted(slices.Values(ended)), gone)
}

func wantGoodWorld(w impl.World) bool {
	_, good := myWorldFrom(w)
	return good
}

// take: a seat for what comes to a part.
func (m *myWorld) take(part int) seat {
	if last := len(m.free[part]) - 1; last >= 0 {
		at := m.free[part][last]
		m.free[part] = m.free[part][:last]
		return seat{part, at}
	}
	m.slots[part]++
	return seat{part, m.slots[part] - 1}
}

func (m *myWorld) leave(s seat) { m.free[s.part] = append(m.free[s.part], s.at) }

func (m *myWorld) isFull(part int) bool {
	return m.slots[part] == mostHandles && len(m.free[part]) == 0
}

// at: which thing is in a seat, and the number of the loan that it is there by, or -1 where it is there as an own one.
func (m *myWorld) at(s seat) (int, int) {
	for i, l := range m.loans {
		if l.seat == s {
			return l.thing, i
		}
	}
	return slices.IndexFunc(m.things, func(x myThing) bool { return !x.gone && x.seat == s }), -1
}

// code: the first one that is told, of an act in a world.
func (m *myWorld) code(a impl.Act) int {
	gives := a.Kind == impl.DoGive || a.Kind == impl.DoLend
	switch {
	case a.Kind < impl.DoMake || a.Kind > impl.DoEnd, a.Part < 0, a.Part >= len(m.slots):
		return impl.HandleBad
	case gives && (a.To < 0 || a.To >= len(m.slots) || a.To == a.Part):
		return impl.HandleBad
	case a.Kind == impl.DoMake && (a.N < 0 || a.N > 9):
		return impl.HandleBad
	case a.Kind == impl.DoMake && (len(m.things) == mostThings || m.isFull(a.Part)):
		return impl.HandleFull
	case a.Kind == impl.DoEnd && len(m.loans) == 0:
		return impl.HandleNone
	case a.Kind == impl.DoMake, a.Kind == impl.DoEnd:
		return impl.HandleOk
	}
	thing, loan := m.at(seat{a.Part, a.At})
	switch {
	case thing < 0:
		return impl.HandleNone
	case m.things[thing].resource != a.N:
		return impl.HandleKind
	case gives && loan >= 0:
		return impl.HandleOwned
	case a.Kind != impl.DoLend && loan < 0 && m.loansOf(thing) > 0:
		return impl.HandleLent
	case a.Kind == impl.DoDrop && loan >= 0 && loan != len(m.loans)-1:
		return impl.HandleLent
	case gives && m.isFull(a.To):
		return impl.HandleFull
	}
	return impl.HandleOk
}

// act: what is told, and the code; what is refused changes nothing.
func (m *myWorld) act(a impl.Act) (int, int) {
	if code := m.code(a); code != impl.HandleOk {
		return 0, code
	}
	s := seat{a.Part, a.At}
	thing, loan := m.at(s)
	switch {
	case a.Kind == impl.DoMake:
		s = m.take(a.Part)
		m.things = append(m.things, myThing{resource: a.N, seat: s})
		return s.at, impl.HandleOk
	case a.Kind == impl.DoGive:
		m.leave(s)
		m.things[thing].seat = m.take(a.To)
		return m.things[thing].seat.at, impl.HandleOk
	case a.Kind == impl.DoLend:
		s = m.take(a.To)
		m.loans = append(m.loans, myLoan{thing, s})
		return s.at, impl.HandleOk
	case a.Kind == impl.DoDrop && loan < 0:
		m.leave(s)
		m.things[thing].gone = true
		m.ended = append(m.ended, thing)
		return thing, impl.HandleOk
	}
	last := m.loans[len(m.loans)-1]
	m.leave(last.seat)
	m.loans = m.loans[:len(m.loans)-1]
	return last.thing, impl.HandleOk
}

// owners: of a thing of the world.
func (m myWorld) owners(thing int) ([]int, bool) {
	if thing < 0 || thing >= len(m.things) {
		return nil, false
	}
	if m.things[thing].gone {
		return nil, true
	}
	return []int{m.things[thing].seat.part}, true
}

// worldAnswer: what DoAct tells.
type worldAnswer struct {
	w    impl.World
	told int
	code int
}

func (a worldAnswer) String() string {
	return fmt.Sprintf("%s told %d, code %d", worldText(a.w), a.told, a.code)
}

func sameWorldAnswer(a worldAnswer, b worldAnswer) bool {
	return sameWorld(a.w, b.w) && a.told == b.told && a.code == b.code
}

func actAnswer(w impl.World, a impl.Act) worldAnswer {
	var x worldAnswer
	x.w, x.told, x.code = impl.DoAct(w, a)
	return x
}

func wantActAnswer(w impl.World, a impl.Act) worldAnswer {
	m, good := myWorldFrom(w)
	if !good {
		return worldAnswer{code: impl.HandleBad}
	}
	told, code := m.act(a)
	return worldAnswer{m.world(), told, code}
}

// checkAct: DoAct tells what it must, the world that was given stays, and a good one is good again.
func checkAct(t *testing.T, w impl.World, a impl.Act) worldAnswer {
	t.Helper()
	kept := copyOfWorld(w)
	got, want := actAnswer(w, a), wantActAnswer(w, a)
	if !sameWorld(w, kept) {
		t.Fatalf("%s, %+v: the world has become %s", worldText(kept), a, worldText(w))
	}
	if !sameWorldAnswer(got, want) {
		t.Fatalf("%s, %+v:\n%s, want\n%s", worldText(w), a, got, want)
	}
	if len(got.w.Tables) > 0 && !impl.GoodWorld(got.w) {
		t.Fatalf("%s, %+v: %s: a world that is not good", worldText(w), a, got)
	}
	return got
}

func checkGoodWorld(t *testing.T, w impl.World, want bool) {
	t.Helper()
	if got := impl.GoodWorld(w); got != want || wantGoodWorld(w) != want {
		t.Errorf("GoodWorld(%s) = %t, the tests' own %t, want %t", worldText(w), got, wantGoodWorld(w), want)
	}
}

// checkOwners: of one thing, in a world of the tests' own or in one that is not good.
func checkOwners(t *testing.T, w impl.World, thing int) {
	t.Helper()
	m, good := myWorldFrom(w)
	var want []int
	if good {
		want, good = m.owners(thing)
	}
	if l, ok := impl.OwnersOf(w, thing); ok != good || !slices.Equal(l, want) {
		t.Fatalf("OwnersOf(%s, %d) = %v, %t, want %v, %t", worldText(w), thing, l, ok, want, good)
	}
}

// checkPromise: promise 16 by its words, and whatever owns a thing is found there.
func checkPromise(t *testing.T, w impl.World) {
	t.Helper()
	for thing, x := range w.Things {
		var seats []seat
		for part, table := range w.Tables {
			for at, h := range table.Slots {
				if h.Used && h.Own && h.Rep == thing {
					seats = append(seats, seat{part, at})
				}
			}
		}
		owners, ok := impl.OwnersOf(w, thing)
		ends := len(slices.DeleteFunc(slices.Clone(w.Ended), func(n int) bool { return n != thing }))
		switch {
		case !ok || x.Alive && (len(seats) != 1 || len(owners) != 1 || owners[0] != seats[0].part || ends != 0):
			t.Fatalf("%s: thing %d has seats %v, owners %v, %d ends", worldText(w), thing, seats, owners, ends)
		case !x.Alive && (len(seats) != 0 || len(owners) != 0 || ends != 1):
			t.Fatalf("%s: thing %d is gone, has seats %v, owners %v, %d ends", worldText(w), thing, seats, owners, ends)
		}
	}
}

// anyAct: mostly one that is of a thing where it is, as what it is.
func anyAct(r *rand.Rand, m myWorld) impl.Act {
	parts := len(m.slots)
	a := impl.Act{Kind: 1 + r.Intn(5), Part: r.Intn(parts), N: r.Intn(10)}
	a.To = r.Intn(parts)
	if a.To == a.Part && r.Intn(4) > 0 {
		a.To = (a.Part + 1) % parts
	}
	a.At = r.Intn(m.slots[a.Part]+2) - 1
	if thing, _ := m.at(seat{a.Part, a.At}); a.Kind != impl.DoMake && thing >= 0 && r.Intn(8) > 0 {
		a.N = m.things[thing].resource
	}
	return a
}

// Kinds of acts, each as often as it stands there.
var (
	manyMade  = []int{impl.DoMake, impl.DoMake, impl.DoMake, impl.DoGive, impl.DoLend, impl.DoDrop}
	manyGiven = []int{impl.DoMake, impl.DoGive, impl.DoGive, impl.DoGive, impl.DoDrop, impl.DoEnd}
	manyLent  = []int{impl.DoMake, impl.DoLend, impl.DoLend, impl.DoLend, impl.DoLend, impl.DoLend, impl.DoEnd}
	allAlike  = []int{impl.DoMake, impl.DoGive, impl.DoLend, impl.DoDrop, impl.DoEnd}
)

// anyMyWorld: what comes of up to so many acts, in up to MaxParts parts.
func anyMyWorld(r *rand.Rand, most int) myWorld {
	m := myWorldOf(1 + r.Intn(mostParts))
	kinds := [][]int{manyMade, manyGiven, manyLent, allAlike}[r.Intn(4)]
	for range r.Intn(most + 1) {
		a := anyAct(r, m)
		a.Kind = kinds[r.Intn(len(kinds))]
		m.act(a)
	}
	return m
}

// doneAll: a good world after acts that must all be done.
func doneAll(t *testing.T, w impl.World, acts string) impl.World {
	t.Helper()
	for _, a := range actsTold(acts) {
		x := checkAct(t, w, a)
		if x.code != impl.HandleOk {
			t.Fatalf("%s, %+v: %s", worldText(w), a, x)
		}
		w = x.w
	}
	return w
}

func newWorld(t *testing.T, parts int) impl.World {
	t.Helper()
	w, ok := impl.NewWorld(parts)
	if !ok || !impl.GoodWorld(w) {
		t.Fatal("no new world of parts:", parts)
	}
	return w
}
