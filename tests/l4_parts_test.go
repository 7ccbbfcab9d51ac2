package tests

import (
	"math"
	"math/big"
	"math/rand"
	"sort"
	"testing"

	"loop.example/g00209/impl"
)

// floatShape: what the document tells of a kind.
type floatShape struct {
	kind, p, bias        int
	sign, infinite, none uint32
}

var (
	halves  = floatShape{impl.FloatHalf, 10, 15, 0x8000, 0x7c00, 0x7e00}
	singles = floatShape{impl.FloatSingle, 23, 127, 0x80000000, 0x7f800000, 0x7fc00000}
	shapes  = []floatShape{halves, singles}
)

// The constants are told in the document by their numbers.
func TestFloatConstants(t *testing.T) {
	if impl.FloatHalf != 16 || impl.FloatSingle != 32 {
		t.Error("kinds")
	}
	for i, mode := range []int{impl.RoundCeil, impl.RoundFloor, impl.RoundTrunc, impl.RoundNear} {
		if mode != i+1 {
			t.Errorf("mode %d of the document's list is %d", i+1, mode)
		}
	}
}

func (s floatShape) isNone(a uint32) bool   { return a&(s.sign-1) > s.infinite }
func (s floatShape) isFinite(a uint32) bool { return a&(s.sign-1) < s.infinite }
func (s floatShape) signed(a uint32, neg bool) uint32 {
	if neg {
		return a | s.sign
	}
	return a
}

// timesPower: m 2^e.
func timesPower(m *big.Int, e int) *big.Rat {
	if e < 0 {
		return new(big.Rat).SetFrac(m, power(-e))
	}
	return new(big.Rat).SetInt(new(big.Int).Mul(m, power(e)))
}

// size: what the bits mean without their sign; of the infinite ones it is the first number beyond the finite
// ones that would be there with a greater exponent.
func (s floatShape) size(a uint32) *big.Rat {
	x, f := int(a&(s.sign-1)>>s.p), int64(a&(1<<s.p-1))
	if x == 0 {
		return timesPower(big.NewInt(f), 1-s.bias-s.p)
	}
	return timesPower(big.NewInt(1<<s.p+f), x-s.bias-s.p)
}

func (s floatShape) exact(a uint32) *big.Rat {
	n := s.size(a)
	if a&s.sign != 0 {
		n.Neg(n)
	}
	return n
}

// nearestBy searches all floats without sign for the nearest to a number that is asked for how another one lies
// to it: below, the same or above.
func (s floatShape) nearestBy(lies func(n *big.Rat) int) uint32 {
	above := sort.Search(int(s.infinite)+1, func(i int) bool { return lies(s.size(uint32(i))) > 0 })
	a := uint32(above - 1)
	if a == s.infinite {
		return a
	}
	middle := new(big.Rat).Add(s.size(a), s.size(a+1))
	switch lies(middle.Quo(middle, big.NewRat(2, 1))) {
	case -1:
		return a + 1
	case 0:
		return a + a%2
	}
	return a
}

// nearest is without sign.
func (s floatShape) nearest(n *big.Rat) uint32 {
	n = new(big.Rat).Abs(n)
	return s.nearestBy(func(x *big.Rat) int { return x.Cmp(n) })
}

// wide: the same number as one of the language's floats, which has room for it.
func (s floatShape) wide(a uint32) float64 {
	switch {
	case s.isNone(a):
		return math.NaN()
	case s.isFinite(a):
		n, _ := s.size(a).Float64()
		return math.Copysign(n, 1-2*float64(a/s.sign&1))
	}
	return math.Inf(1 - 2*int(a/s.sign&1))
}

// special: the bits of a number of the language's that is no number, infinite or 0.
func (s floatShape) special(n float64) uint32 {
	switch {
	case math.IsNaN(n):
		return s.none
	case math.IsInf(n, 0):
		return s.signed(s.infinite, n < 0)
	}
	return s.signed(0, math.Signbit(n))
}

// edgeFloats: 0, the least and the greatest with x 0 and with x not 0, around 1 and powers, the greatest finite
// ones, infinite ones, no numbers of all sorts; each with both signs.
func (s floatShape) edgeFloats() []uint32 {
	first, one := uint32(1)<<s.p, uint32(s.bias)<<s.p
	l := []uint32{0, 1, 2, 3, first / 2, first - 2, first - 1, first, first + 1, 2*first - 1, 2 * first, 2*first + 1,
		one - first, one - 2, one - 1, one, one + 1, one + 2, one + 3, one + first/2, one + first - 1, one + first,
		one + first + first/2, one + 2*first - 1, one + 2*first, one + 3*first + first/4,
		one + uint32(s.p)*first, one + uint32(s.p+1)*first, one + uint32(s.p+1)*first + 1, one + uint32(s.p+2)*first,
		one - uint32(s.p)*first, one - uint32(s.p+1)*first, one - uint32(s.p+1)*first + 1, one - uint32(s.p+2)*first,
		s.infinite - first, s.infinite - first - 1, s.infinite - 2, s.infinite - 1, s.infinite,
		s.infinite + 1, s.none - 1, s.none, s.none + 1, s.sign - 1}
	for _, a := range l {
		l = append(l, a|s.sign)
	}
	return l
}

// anyFloat: any bits, and such as have few of them set.
func (s floatShape) anyFloat(r *rand.Rand) uint32 {
	a := r.Uint32() & (2*s.sign - 1)
	if r.Intn(2) == 0 {
		return a >> r.Intn(s.p) << r.Intn(s.p) & (2*s.sign - 1)
	}
	return a
}

// anyFinite: of any exponent alike, with a last bit that lies anywhere.
func (s floatShape) anyFinite(r *rand.Rand) uint32 {
	a := s.signed(uint32(r.Intn(int(s.infinite))), r.Intn(2) == 0)
	if r.Intn(2) == 0 {
		return a &^ (1<<r.Intn(s.p) - 1)
	}
	return a
}

func (s floatShape) someFloats(r *rand.Rand, many int) []uint32 {
	l := s.edgeFloats()
	for range many {
		l = append(l, s.anyFloat(r))
	}
	return l
}

func checkParts(t *testing.T, s floatShape, a uint32) {
	t.Helper()
	neg, m, e, ok := impl.FloatParts(s.kind, a)
	if !s.isFinite(a) {
		if neg || m != 0 || e != 0 || ok {
			t.Fatalf("FloatParts(%d, %x) = %t, %d, %d, %t", s.kind, a, neg, m, e, ok)
		}
		return
	}
	x := int(a &^ s.sign >> s.p)
	wantM, wantE := uint64(a&(1<<s.p-1)), max(x, 1)-s.bias-s.p
	if x > 0 {
		wantM += 1 << s.p
	}
	if neg != (a&s.sign != 0) || m != wantM || e != wantE || !ok {
		t.Fatalf("FloatParts(%d, %x) = %t, %d, %d, %t, want %d, %d", s.kind, a, neg, m, e, ok, wantM, wantE)
	}
	if n, ok := impl.RoundFloat(s.kind, neg, m, e, false); n != a || !ok {
		t.Fatalf("RoundFloat of the parts of %x: %x, %t", a, n, ok)
	}
}

// Promise 4: a finite float is what its parts tell, and comes back from them; others have none.
func TestFloatParts(t *testing.T) {
	for a := range uint32(1 << 16) {
		checkParts(t, halves, a)
	}
	for _, a := range singles.someFloats(rand.New(rand.NewSource(41)), 50000) {
		checkParts(t, singles, a)
		neg, m, e, ok := impl.FloatParts(impl.FloatSingle, a)
		n := math.Ldexp(float64(m), e)
		if neg {
			n = -n
		}
		if ok && (n != float64(math.Float32frombits(a)) || math.Signbit(n) != neg && m != 0) {
			t.Fatalf("parts of %x: %t, %d, %d", a, neg, m, e)
		}
	}
}

// Promise 4: some parts written out.
func TestFloatPartsWrittenOut(t *testing.T) {
	for _, c := range []struct {
		kind int
		a    uint32
		neg  bool
		m    uint64
		e    int
	}{
		{16, 0, false, 0, -24}, {16, 0x8000, true, 0, -24}, {16, 1, false, 1, -24}, {16, 0x83ff, true, 1023, -24},
		{16, 0x0400, false, 1024, -24}, {16, 0x0800, false, 1024, -23}, {16, 0x3c00, false, 1024, -10},
		{16, 0xfbff, true, 2047, 5}, {16, 0xffff3c00, false, 1024, -10},
		{32, 0, false, 0, -149}, {32, 0x80000001, true, 1, -149}, {32, 0x007fffff, false, 1<<23 - 1, -149},
		{32, 0x00800000, false, 1 << 23, -149}, {32, 0x3f800000, false, 1 << 23, -23}, {32, 0x7f7fffff, false, 1<<24 - 1, 104},
	} {
		if neg, m, e, ok := impl.FloatParts(c.kind, c.a); neg != c.neg || m != c.m || e != c.e || !ok {
			t.Errorf("FloatParts(%d, %x) = %t, %d, %d, %t, want %t, %d, %d", c.kind, c.a, neg, m, e, ok, c.neg, c.m, c.e)
		}
	}
}
