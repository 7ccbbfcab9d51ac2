package tests

import (
	"fmt"
	"math/rand"
	"slices"
	"strconv"
	"strings"
	"testing"

	"loop.example/g00209/impl"
)

// mostHandles, mostLends: told by the document.
const (
	mostHandles = 40
	mostLends   = 1000
)

func own(resource int, rep int) impl.Handle {
	return impl.Handle{Used: true, Resource: resource, Rep: rep, Own: true}
}

func borrow(resource int, rep int, scope int) impl.Handle {
	return impl.Handle{Used: true, Resource: resource, Rep: rep, Scope: scope}
}

func lent(h impl.Handle, lends int) impl.Handle {
	h.Lends = lends
	return h
}

// handleTold: "o2:5" is an own handle of resource 2 and Rep 5, "b2:5@3" a borrow of Scope 3, "+4" behind it are its Lends;
// "-" is a Slot that is not Used.
func handleTold(s string) impl.Handle {
	if s == "-" {
		return impl.Handle{}
	}
	rest, lends, _ := strings.Cut(s[1:], "+")
	rest, scope, _ := strings.Cut(rest, "@")
	resource, rep, _ := strings.Cut(rest, ":")
	number := func(s string) int {
		n, _ := strconv.Atoi(s)
		return n
	}
	return impl.Handle{Used: true, Resource: number(resource), Rep: number(rep), Own: s[0] == 'o', Lends: number(lends), Scope: number(scope)}
}

// tableTold: its Slots, and behind "|" what is Free.
func tableTold(s string) impl.Table {
	slots, free, _ := strings.Cut(s, "|")
	var x impl.Table
	for _, h := range strings.Fields(slots) {
		x.Slots = append(x.Slots, handleTold(h))
	}
	for _, word := range strings.Fields(free) {
		n, _ := strconv.Atoi(word)
		x.Free = append(x.Free, n)
	}
	return x
}

// handleText: as handleTold reads it, with all that is in it.
func handleText(h impl.Handle) string {
	if h == (impl.Handle{}) {
		return "-"
	}
	s := "b"
	if h.Own {
		s = "o"
	}
	s += fmt.Sprintf("%d:%d", h.Resource, h.Rep)
	if h.Scope != 0 {
		s += fmt.Sprintf("@%d", h.Scope)
	}
	if h.Lends != 0 {
		s += fmt.Sprintf("+%d", h.Lends)
	}
	if !h.Used {
		s += "(not Used)"
	}
	return s
}

func tableText(x impl.Table) string {
	var s string
	for i, h := range x.Slots {
		if i == 2*mostHandles {
			return fmt.Sprintf("%s .. of %d and %d", s, len(x.Slots), len(x.Free))
		}
		s += handleText(h) + " "
	}
	return s + "|" + short(x.Free)
}

func copyOfTable(x impl.Table) impl.Table {
	return impl.Table{Slots: slices.Clone(x.Slots), Free: slices.Clone(x.Free)}
}

func sameTable(a impl.Table, b impl.Table) bool {
	return slices.Equal(a.Slots, b.Slots) && slices.Equal(a.Free, b.Free)
}

// fullTable: so many Slots, all Used, own ones and borrows by turns.
func fullTable(many int) impl.Table {
	var x impl.Table
	for i := range many {
		h := own(i%10, i)
		if i%3 == 1 {
			h = borrow(i%10, i, i+1)
		}
		x.Slots = append(x.Slots, h)
	}
	return x
}

// The steps, by the names of their functions.
const (
	doNew    = "NewHandle"
	doFind   = "FindHandle"
	doLend   = "LendHandle"
	doReturn = "ReturnHandle"
	doDrop   = "DropHandle"
	doMove   = "MoveHandle"
)

// ofAHandle: the steps that ask of a handle of the table.
var ofAHandle = []string{doFind, doLend, doReturn, doDrop, doMove}

// handleStep: one call. resource is not asked for by NewHandle and ReturnHandle, h by NewHandle alone.
type handleStep struct {
	do       string
	at       int
	resource int
	h        impl.Handle
}

func (s handleStep) String() string {
	if s.do == doNew {
		return fmt.Sprintf("%s %s", s.do, handleText(s.h))
	}
	return fmt.Sprintf("%s at %d of %d", s.do, s.at, s.resource)
}

// handleAnswer: what a call tells. FindHandle tells no table: it is then the one that was given, or the zero one.
type handleAnswer struct {
	x    impl.Table
	at   int
	h    impl.Handle
	code int
}

func (a handleAnswer) String() string {
	return fmt.Sprintf("%s, at %d, %s, code %d", tableText(a.x), a.at, handleText(a.h), a.code)
}

func sameHandleAnswer(a handleAnswer, b handleAnswer) bool {
	return sameTable(a.x, b.x) && a.at == b.at && a.h == b.h && a.code == b.code
}

func (s handleStep) answer(x impl.Table) handleAnswer {
	var a handleAnswer
	switch s.do {
	case doNew:
		a.x, a.at, a.code = impl.NewHandle(x, s.h)
	case doFind:
		if a.h, a.code = impl.FindHandle(x, s.at, s.resource); a.code != impl.HandleBad {
			a.x = copyOfTable(x)
		}
	case doLend:
		a.x, a.h, a.code = impl.LendHandle(x, s.at, s.resource)
	case doReturn:
		a.x, a.code = impl.ReturnHandle(x, s.at)
	case doDrop:
		a.x, a.h, a.code = impl.DropHandle(x, s.at, s.resource)
	case doMove:
		a.x, a.h, a.code = impl.MoveHandle(x, s.at, s.resource)
	}
	return a
}

// wantHandle: whether a Used Slot may have it.
func wantHandle(h impl.Handle) bool {
	if h.Own && h.Scope != 0 || !h.Own && h.Scope < 1 {
		return false
	}
	return h.Used && h.Resource >= 0 && h.Resource < 10 && h.Rep >= 0 && h.Rep <= 1000000 && h.Lends >= 0 && h.Lends <= 1000 && h.Scope <= 1000
}

func wantTable(x impl.Table) bool {
	if len(x.Slots) > mostHandles {
		return false
	}
	var unused []int
	for n, h := range x.Slots {
		if h == (impl.Handle{}) {
			unused = append(unused, n)
		} else if !wantHandle(h) {
			return false
		}
	}
	return slices.Equal(slices.Sorted(slices.Values(x.Free)), unused)
}

// wantHandleCode: of a good table.
func wantHandleCode(x impl.Table, s handleStep) int {
	if s.do == doNew {
		switch {
		case !wantHandle(s.h) || s.h.Lends != 0:
			return impl.HandleBad
		case len(x.Slots) == mostHandles && len(x.Free) == 0:
			return impl.HandleFull
		}
		return impl.HandleOk
	}
	if s.at < 0 || s.at >= len(x.Slots) || !x.Slots[s.at].Used {
		return impl.HandleNone
	}
	h := x.Slots[s.at]
	goes := s.do == doDrop || s.do == doMove
	switch {
	case s.do != doReturn && h.Resource != s.resource:
		return impl.HandleKind
	case s.do == doMove && !h.Own:
		return impl.HandleOwned
	case goes && h.Lends > 0, s.do == doLend && h.Lends == mostLends, s.do == doReturn && h.Lends == 0:
		return impl.HandleLent
	}
	return impl.HandleOk
}

// wantStep: what a call must tell, worked out on the lists themselves.
func wantStep(x impl.Table, s handleStep) handleAnswer {
	if !wantTable(x) {
		return handleAnswer{code: impl.HandleBad}
	}
	a := handleAnswer{x: copyOfTable(x), code: wantHandleCode(x, s)}
	if a.code != impl.HandleOk {
		return a
	}
	if s.do != doNew && s.do != doReturn {
		a.h = x.Slots[s.at]
	}
	last := len(x.Free) - 1
	switch s.do {
	case doNew:
		if last < 0 {
			a.at, a.x.Slots = len(x.Slots), append(a.x.Slots, s.h)
			break
		}
		a.at, a.x.Free = x.Free[last], a.x.Free[:last]
		a.x.Slots[a.at] = s.h
	case doLend:
		a.x.Slots[s.at].Lends++
	case doReturn:
		a.x.Slots[s.at].Lends--
	case doDrop, doMove:
		a.x.Slots[s.at] = impl.Handle{}
		a.x.Free = append(a.x.Free, s.at)
	}
	return a
}

func wantCount(x impl.Table, resource int) (int, bool) {
	if !wantTable(x) {
		return 0, false
	}
	rest := slices.DeleteFunc(slices.Clone(x.Slots), func(h impl.Handle) bool {
		return !h.Used || resource != -1 && h.Resource != resource
	})
	return len(rest), true
}

// checkStep: the call tells what it must, and the table that was given stays.
func checkStep(t *testing.T, x impl.Table, s handleStep) handleAnswer {
	t.Helper()
	kept := copyOfTable(x)
	a, want := s.answer(x), wantStep(x, s)
	if !sameTable(x, kept) {
		t.Fatalf("%s, %s: the table has become %s", tableText(kept), s, tableText(x))
	}
	if !sameHandleAnswer(a, want) {
		t.Fatalf("%s, %s: %s, want %s", tableText(x), s, a, want)
	}
	return a
}

func checkCount(t *testing.T, x impl.Table, resource int) {
	t.Helper()
	n, ok := impl.CountUsed(x, resource)
	if want, good := wantCount(x, resource); n != want || ok != good {
		t.Fatalf("CountUsed(%s, %d) = %d, %t, want %d, %t", tableText(x), resource, n, ok, want, good)
	}
}

func checkGoodTable(t *testing.T, x impl.Table, want bool) {
	t.Helper()
	if got := impl.GoodTable(x); got != want || wantTable(x) != want {
		t.Errorf("GoodTable(%s) = %t, want %t", tableText(x), got, want)
	}
}

// anyHandle: a good one, with Lends 0.
func anyHandle(r *rand.Rand) impl.Handle {
	if r.Intn(3) == 0 {
		return borrow(r.Intn(10), r.Intn(1000001), 1+r.Intn(1000))
	}
	return own(r.Intn(10), r.Intn(1000001))
}

// anyTable: a good one of at most so many Slots, in which some are not Used and some are lent.
func anyTable(r *rand.Rand, most int) impl.Table {
	var x impl.Table
	for n := range r.Intn(most + 1) {
		h := lent(anyHandle(r), []int{0, 0, 0, 1, 2, 999, 1000}[r.Intn(7)])
		if r.Intn(4) == 0 {
			h = impl.Handle{}
			x.Free = slices.Insert(x.Free, r.Intn(len(x.Free)+1), n)
		}
		x.Slots = append(x.Slots, h)
	}
	return x
}

// anyStep: mostly one that asks of a handle as what it is.
func anyStep(r *rand.Rand, x impl.Table) handleStep {
	s := handleStep{do: append(ofAHandle, doNew, doNew)[r.Intn(7)], at: r.Intn(len(x.Slots)+2) - 1, resource: r.Intn(10), h: anyHandle(r)}
	if s.at >= 0 && s.at < len(x.Slots) && r.Intn(5) > 0 {
		s.resource = x.Slots[s.at].Resource
	}
	return s
}
