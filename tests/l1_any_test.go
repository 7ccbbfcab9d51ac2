package tests

import (
	"math"
	"math/rand"
	"slices"
	"strings"
	"testing"
	"unsafe"

	"loop.example/g00209/impl"
)

// callLeb calls every function of chapter 1 with what it is given, as far as that fits, and fails where one
// answers something beside a false, or a number of bytes that are not there.
func callLeb(t *testing.T, s string, n int, l []impl.Section) {
	t.Helper()
	defer func() {
		if r := recover(); r != nil {
			t.Fatalf("panic at %.40x, %d, %v: %v", s, n, l, r)
		}
	}()
	if x := impl.UlebBytes(uint64(n)); len(x) < 1 || len(x) > 10 || impl.UlebSize(uint64(n)) != len(x) {
		t.Fatalf("UlebBytes(%d) = %x", uint64(n), x)
	}
	if x := impl.SlebBytes(n); len(x) < 1 || len(x) > 10 {
		t.Fatalf("SlebBytes(%d) = %x", n, x)
	}
	if x, took := impl.TakeUleb(s, n); took < 0 || took > len(s) || took > 10 || took == 0 && x != 0 {
		t.Fatalf("TakeUleb(%x, %d) = %d, %d", s, n, x, took)
	}
	if x, took := impl.TakeSleb(s, n); took < 0 || took > len(s) || took > 10 || took == 0 && x != 0 {
		t.Fatalf("TakeSleb(%x, %d) = %d, %d", s, n, x, took)
	}
	if x, ok := impl.SectionsBytes(l); len(x) > impl.MaxBytes || !ok && x != "" {
		t.Fatalf("SectionsBytes(%v) = %x, %t", l, x, ok)
	}
	if x, ok := impl.ReadSections(s); len(x) > impl.MaxSections || !ok && len(x) != 0 {
		t.Fatalf("ReadSections(%x) = %v, %t", s, x, ok)
	}
	if x, ok := impl.NameBytes(s); ok != (len(s) <= 100) || !ok && x != "" {
		t.Fatalf("NameBytes(%x) = %x, %t", s, x, ok)
	}
	if x, took, ok := impl.TakeName(s); took < 0 || took > len(s) || len(x) > 100 || ok != (took > 0) || !ok && x != "" {
		t.Fatalf("TakeName(%x) = %x, %d, %t", s, x, took, ok)
	}
}

func anySections(r *rand.Rand) []impl.Section {
	var l []impl.Section
	id := r.Intn(6) - 2
	for range r.Intn(25) {
		l = append(l, impl.Section{Id: id, Body: text(r.Intn(3) * r.Intn(600))})
		id += r.Intn(3)
		if r.Intn(50) == 0 {
			id = int(r.Uint64())
		}
	}
	return l
}

// Promise 19: every function answers at any arguments.
func TestLebAnswersAtAnything(t *testing.T) {
	numbers := []int{0, 1, -1, 7, 31, 32, 33, 63, 64, 65, 66, 70, 127, 128, math.MaxInt, math.MinInt, math.MaxInt - 6, math.MaxUint32, -64, -65}
	texts := []string{"", "\x00", "\x7f", "\x80", "\xff", text(4000), text(4001), strings.Repeat("\xff", 9), strings.Repeat("\x80", 10),
		strings.Repeat("\xff", 10), strings.Repeat("\xff", 11), strings.Repeat("\x00", 100000), "\x01\xff\xff\xff\xff\x0f", "\x14\x00"}
	lists := [][]impl.Section{nil, {}, {{}}, {{}, {}}, make([]impl.Section, 1000), {{Id: math.MaxInt}}, {{Id: math.MinInt}}, {{Id: 1, Body: text(100000)}}}
	for _, s := range texts {
		for _, n := range numbers {
			for _, l := range lists {
				callLeb(t, s, n, l)
			}
		}
	}
	r := rand.New(rand.NewSource(19))
	for range 20000 {
		s := make([]byte, r.Intn(40))
		for i := range s {
			s[i] = byte(r.Intn(256)) >> r.Intn(8)
		}
		callLeb(t, string(s), r.Intn(80)-8, anySections(r))
	}
}

// Promise 19: nothing is written into an argument, nor is what lies behind a list's length read or written.
func TestLebLeavesArguments(t *testing.T) {
	for _, id := range []int{2, 1, 30} { // good, falling, out of range
		all := []impl.Section{{Id: 1, Body: "ab"}, {Id: id, Body: "c"}, {Id: 99, Body: text(2000)}, {Id: -5}}
		kept := slices.Clone(all)
		s, ok := impl.SectionsBytes(all[:2])
		if !slices.Equal(all, kept) {
			t.Error("argument changed:", all)
		}
		if ok != (id == 2) || ok && s != "\x01\x02ab\x02\x01c" {
			t.Errorf("Id %d: %x, %t", id, s, ok)
		}
	}
}

// Promise 19: an answer is new memory, and the same call answers the same again.
func TestLebAnswersAreNew(t *testing.T) {
	s := "\x01\x02ab\x03\x01c"
	first, _ := impl.ReadSections(s)
	for i := range first {
		first[i] = impl.Section{Id: 9, Body: "changed"}
	}
	second, ok := impl.ReadSections(s)
	if !slices.Equal(second, []impl.Section{{Id: 1, Body: "ab"}, {Id: 3, Body: "c"}}) || !ok {
		t.Error(second, ok)
	}
	for _, x := range second {
		if sharesBytes(s, x.Body) {
			t.Error("a Body lies in the argument:", x)
		}
	}
	name := "\x02abc"
	if x, _, ok := impl.TakeName(name); !ok || sharesBytes(name, x) {
		t.Error("the name lies in the argument")
	}
	if x, ok := impl.NameBytes(name); !ok || sharesBytes(name, x) {
		t.Error("the bytes of a name lie in the argument")
	}
}

// sharesBytes: part lies in the memory of whole.
func sharesBytes(whole string, part string) bool {
	from := uintptr(unsafe.Pointer(unsafe.StringData(whole)))
	at := uintptr(unsafe.Pointer(unsafe.StringData(part)))
	return len(part) > 0 && at >= from && at < from+uintptr(len(whole))
}
