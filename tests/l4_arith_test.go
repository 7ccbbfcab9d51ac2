package tests

import (
	"math"
	"math/big"
	"math/rand"
	"sort"
	"testing"

	"loop.example/g00209/impl"
)

// floatWork: an operation of two floats, the same of the language's floats (which tells the sign, what is
// infinite and what is no number) and of exact numbers.
type floatWork struct {
	name  string
	work  func(kind int, a uint32, b uint32) uint32
	wide  func(x float64, y float64) float64
	exact func(n *big.Rat, x *big.Rat, y *big.Rat) *big.Rat
}

var floatWorks = []floatWork{
	{"FAdd", impl.FAdd, func(x, y float64) float64 { return x + y }, (*big.Rat).Add},
	{"FSub", impl.FSub, func(x, y float64) float64 { return x - y }, (*big.Rat).Sub},
	{"FMul", impl.FMul, func(x, y float64) float64 { return x * y }, (*big.Rat).Mul},
	{"FDiv", impl.FDiv, func(x, y float64) float64 { return x / y }, (*big.Rat).Quo},
}

// want: no product or quotient of two singles goes beyond what the language's longer floats have.
func (w floatWork) want(s floatShape, a uint32, b uint32) uint32 {
	guess := w.wide(s.wide(a), s.wide(b))
	if !s.isFinite(a) || !s.isFinite(b) || math.IsNaN(guess) || math.IsInf(guess, 0) || guess == 0 {
		return s.special(guess)
	}
	return s.signed(s.nearest(w.exact(new(big.Rat), s.exact(a), s.exact(b))), math.Signbit(guess))
}

func checkWork(t *testing.T, w floatWork, s floatShape, a uint32, b uint32) {
	t.Helper()
	if n, want := w.work(s.kind, a, b), w.want(s, a, b); n != want {
		t.Fatalf("%s(%d, %x, %x) = %x, want %x", w.name, s.kind, a, b, n, want)
	}
}

// Promise 4: the four operations at all edges, infinite ones and no numbers among them.
func TestFloatWorksAtEdges(t *testing.T) {
	for _, s := range shapes {
		for _, a := range s.edgeFloats() {
			for _, b := range s.edgeFloats() {
				for _, w := range floatWorks {
					checkWork(t, w, s, a, b)
				}
			}
		}
	}
}

// Promise 4: the four operations of any floats, near each other and far from each other.
func TestFloatWorksOfAnything(t *testing.T) {
	r := rand.New(rand.NewSource(43))
	for range 3000 {
		for _, s := range shapes {
			a, b := s.anyFinite(r), s.anyFinite(r)
			near := (a + uint32(r.Intn(8<<s.p))) & (2*s.sign - 1)
			for _, w := range floatWorks {
				checkWork(t, w, s, a, b)
				checkWork(t, w, s, a, near)
				checkWork(t, w, s, near^s.sign, a)
			}
		}
	}
}

// Promise 4: singles are as the language's own, many of them.
func TestSinglesAsTheLanguagesOwn(t *testing.T) {
	r := rand.New(rand.NewSource(44))
	for range 400000 {
		a, b := singles.anyFloat(r), singles.anyFloat(r)
		if r.Intn(2) == 0 {
			b = a ^ uint32(r.Intn(1<<28))
		}
		x, y := math.Float32frombits(a), math.Float32frombits(b)
		for i, n := range []float32{x + y, x - y, x * y, x / y} {
			want := math.Float32bits(n)
			if n != n {
				want = singles.none
			}
			if got := floatWorks[i].work(impl.FloatSingle, a, b); got != want {
				t.Fatalf("%s(32, %x, %x) = %x, want %x", floatWorks[i].name, a, b, got, want)
			}
		}
	}
}

// halfSteps: of each half without sign how many of the least one it is; the infinite one as in size.
func halfSteps() []int {
	l := []int{}
	for a := uint32(0); a <= halves.infinite; a++ {
		n := new(big.Rat).Mul(halves.size(a), timesPower(big.NewInt(1), 24))
		l = append(l, int(n.Num().Int64()))
	}
	return l
}

// nearestSteps: the half without sign that is nearest to n 2^-by of the least ones.
func nearestSteps(steps []int, n int, by int) uint32 {
	a := sort.SearchInts(steps, n>>by+1) - 1
	if a == len(steps)-1 {
		return uint32(a)
	}
	middle := (steps[a] + steps[a+1]) << by
	if 2*n > middle || 2*n == middle && a%2 == 1 {
		return uint32(a + 1)
	}
	return uint32(a)
}

// Promise 4: all sums and differences of many halves with every half.
func TestHalfSumsWithEveryHalf(t *testing.T) {
	steps := halfSteps()
	for a := uint32(0); a < halves.infinite; a += 1021 {
		for b := range halves.infinite {
			sum := nearestSteps(steps, steps[a]+steps[b], 0)
			if n := impl.FAdd(16, a, b); n != sum {
				t.Fatalf("FAdd(16, %x, %x) = %x, want %x", a, b, n, sum)
			}
			if n := impl.FSub(16, a|0x8000, b); n != sum|0x8000 {
				t.Fatalf("FSub(16, %x, %x) = %x, want %x", a|0x8000, b, n, sum|0x8000)
			}
			left := max(steps[a], steps[b]) - min(steps[a], steps[b])
			want := halves.signed(nearestSteps(steps, left, 0), steps[a] < steps[b])
			if n := impl.FSub(16, a, b); n != want {
				t.Fatalf("FSub(16, %x, %x) = %x, want %x", a, b, n, want)
			}
			if n := impl.FAdd(16, b|0x8000, a); n != want {
				t.Fatalf("FAdd(16, %x, %x) = %x, want %x", b|0x8000, a, n, want)
			}
		}
	}
}

// Promise 4: products of many halves below 64 with every one of them.
func TestHalfProductsWithEveryHalf(t *testing.T) {
	steps, below64 := halfSteps(), uint32(0x5400)
	for a := uint32(0); a < below64; a += 509 {
		for b := range below64 {
			want := nearestSteps(steps, steps[a]*steps[b], 24)
			if n := impl.FMul(16, a, b); n != want {
				t.Fatalf("FMul(16, %x, %x) = %x, want %x", a, b, n, want)
			}
			if n := impl.FMul(16, b, a|0x8000); n != want|0x8000 {
				t.Fatalf("FMul(16, %x, %x) = %x, want %x", b, a|0x8000, n, want|0x8000)
			}
		}
	}
}

// Promise 4: quotients of halves below 16384: the number lies no farther from the divisor times what is told
// than from it times the halves beside that; as far only where what is told is even.
func TestHalfQuotients(t *testing.T) {
	steps, below16384 := halfSteps(), uint32(0x7400)
	r := rand.New(rand.NewSource(45))
	far := func(a uint32, b uint32, c uint32) *big.Int {
		n := new(big.Int).Mul(big.NewInt(int64(steps[b])), big.NewInt(int64(steps[c])))
		return n.Abs(n.Sub(n, new(big.Int).Lsh(big.NewInt(int64(steps[a])), 24)))
	}
	for range 200000 {
		a, b := uint32(r.Intn(int(below16384))), 1+uint32(r.Intn(int(below16384)-1))
		n := impl.FDiv(16, a, b)
		if n > halves.infinite {
			t.Fatalf("FDiv(16, %x, %x) = %x", a, b, n)
		}
		if n < halves.infinite {
			if c := far(a, b, n).Cmp(far(a, b, n+1)); c > 0 || c == 0 && n%2 == 1 {
				t.Fatalf("FDiv(16, %x, %x) = %x, but the next one is as near", a, b, n)
			}
		}
		if n > 0 {
			if c := far(a, b, n).Cmp(far(a, b, n-1)); c > 0 || c == 0 && n%2 == 1 {
				t.Fatalf("FDiv(16, %x, %x) = %x, but the one ahead is as near", a, b, n)
			}
		}
	}
}

// wantRoot: a number lies to the root as its square to what is under it.
func wantRoot(s floatShape, a uint32) uint32 {
	if !s.isFinite(a) || a&s.sign != 0 || a == 0 {
		return s.special(math.Sqrt(s.wide(a)))
	}
	n := s.size(a)
	return s.nearestBy(func(x *big.Rat) int { return new(big.Rat).Mul(x, x).Cmp(n) })
}

// Promise 4: the roots of all halves, of those below 0 and of what is no finite number too.
func TestHalfRoots(t *testing.T) {
	for a := range uint32(1 << 16) {
		if n, want := impl.FSqrt(16, a), wantRoot(halves, a); n != want {
			t.Fatalf("FSqrt(16, %x) = %x, want %x", a, n, want)
		}
	}
}

// Promise 4: the roots of singles, of squares and of those beside squares.
func TestSingleRoots(t *testing.T) {
	r := rand.New(rand.NewSource(46))
	l := singles.edgeFloats()
	for range 3000 {
		square := impl.FMul(32, singles.anyFinite(r)&^0xfff, 0x3f800000)
		square = impl.FMul(32, square, square)
		l = append(l, singles.anyFinite(r), square, square+1, square-1)
	}
	for _, a := range l {
		if n, want := impl.FSqrt(32, a), wantRoot(singles, a); n != want {
			t.Fatalf("FSqrt(32, %x) = %x, want %x", a, n, want)
		}
	}
	for range 300000 {
		a := singles.anyFinite(r) &^ singles.sign
		want := math.Float32bits(float32(math.Sqrt(float64(math.Float32frombits(a)))))
		if n := impl.FSqrt(32, a); n != want {
			t.Fatalf("FSqrt(32, %x) = %x, want %x", a, n, want)
		}
	}
}

// checkTwoSum: Knuth's sum of two: what the rounding of a sum left out, worked out by sums alone, is exact.
func checkTwoSum(t *testing.T, s floatShape, a uint32, b uint32) {
	t.Helper()
	sum := impl.FAdd(s.kind, a, b)
	other := impl.FSub(s.kind, sum, a)
	one := impl.FSub(s.kind, sum, other)
	left := impl.FAdd(s.kind, impl.FSub(s.kind, a, one), impl.FSub(s.kind, b, other))
	for _, n := range []uint32{sum, other, one, left} {
		if !s.isFinite(n) {
			return
		}
	}
	want := new(big.Rat).Add(s.exact(a), s.exact(b))
	if got := new(big.Rat).Add(s.exact(sum), s.exact(left)); got.Cmp(want) != 0 {
		t.Fatalf("kind %d: %x and %x: the sum %x, left out %x", s.kind, a, b, sum, left)
	}
}

// Promise 4: Knuth's sum of two, where all is finite.
func TestKnuthsSumOfTwo(t *testing.T) {
	r := rand.New(rand.NewSource(47))
	for _, s := range shapes {
		for _, a := range s.edgeFloats() {
			for _, b := range s.edgeFloats() {
				if s.isFinite(a) && s.isFinite(b) {
					checkTwoSum(t, s, a, b)
				}
			}
		}
		for range 20000 {
			a := s.anyFinite(r)
			checkTwoSum(t, s, a, s.anyFinite(r))
			if b := (a + uint32(r.Intn(20<<s.p))) & (2*s.sign - 1); s.isFinite(b) {
				checkTwoSum(t, s, a, b)
				checkTwoSum(t, s, a, b^s.sign)
			}
		}
	}
}

// Promise 4: Sterbenz's lemma: of two of which none is more than twice the other the difference is exact.
func TestSterbenzsLemma(t *testing.T) {
	r := rand.New(rand.NewSource(48))
	for _, s := range shapes {
		for range 20000 {
			a := s.anyFinite(r) &^ s.sign
			b := a + uint32(r.Intn(1<<s.p+1))
			if !s.isFinite(b) || s.size(b).Cmp(new(big.Rat).Mul(s.size(a), big.NewRat(2, 1))) > 0 {
				continue
			}
			want := new(big.Rat).Sub(s.size(b), s.size(a))
			if n := impl.FSub(s.kind, b, a); n&s.sign != 0 || s.size(n).Cmp(want) != 0 {
				t.Fatalf("FSub(%d, %x, %x) = %x", s.kind, b, a, n)
			}
			if n := impl.FSub(s.kind, a, b); s.exact(n).Cmp(want.Neg(want)) != 0 || n&s.sign == 0 && n != 0 {
				t.Fatalf("FSub(%d, %x, %x) = %x", s.kind, a, b, n)
			}
		}
	}
}

// Promise 4: the edges that the document names, written out; of halves the bits above the lowest 16 don't count.
func TestFloatWorksWrittenOut(t *testing.T) {
	for _, c := range []struct {
		what       string
		work       func(kind int, a uint32, b uint32) uint32
		kind       int
		a, b, want uint32
	}{
		{"x - x", impl.FSub, 16, 0x3c01, 0x3c01, 0}, {"x - x", impl.FSub, 32, 0xbf800001, 0xbf800001, 0},
		{"-0 - -0", impl.FSub, 16, 0x8000, 0x8000, 0}, {"0 - 0", impl.FSub, 32, 0, 0, 0}, {"x + -x", impl.FAdd, 16, 0x8001, 1, 0},
		{"0 + -0", impl.FAdd, 16, 0, 0x8000, 0}, {"-0 + 0", impl.FAdd, 32, 0x80000000, 0, 0}, {"-0 + -0", impl.FAdd, 16, 0x8000, 0x8000, 0x8000},
		{"-0 - 0", impl.FSub, 32, 0x80000000, 0, 0x80000000}, {"0 - -0", impl.FSub, 16, 0, 0x8000, 0},
		{"infinite less infinite", impl.FSub, 16, 0x7c00, 0x7c00, 0x7e00}, {"infinite less infinite", impl.FSub, 32, 0xff800000, 0xff800000, 0x7fc00000},
		{"infinite less -infinite", impl.FSub, 16, 0x7c00, 0xfc00, 0x7c00}, {"unlike infinite", impl.FAdd, 16, 0xfc00, 0x7c00, 0x7e00},
		{"like infinite", impl.FAdd, 16, 0xfc00, 0xfc00, 0xfc00}, {"infinite less 1", impl.FSub, 16, 0x7c00, 0x3c00, 0x7c00},
		{"1 less infinite", impl.FSub, 16, 0x3c00, 0x7c00, 0xfc00},
		{"0 times infinite", impl.FMul, 16, 0, 0xfc00, 0x7e00}, {"infinite times -0", impl.FMul, 32, 0x7f800000, 0x80000000, 0x7fc00000},
		{"infinite times -1", impl.FMul, 16, 0x7c00, 0xbc00, 0xfc00}, {"-0 times 1", impl.FMul, 16, 0x8000, 0x3c00, 0x8000},
		{"-0 times -1", impl.FMul, 16, 0x8000, 0xbc00, 0}, {"least times half", impl.FMul, 16, 1, 0x3800, 0}, {"least times -half", impl.FMul, 16, 1, 0xb800, 0x8000},
		{"3 least times half", impl.FMul, 16, 3, 0x3800, 2}, {"greatest times 2", impl.FMul, 16, 0x7bff, 0x4000, 0x7c00},
		{"0 by 0", impl.FDiv, 16, 0, 0x8000, 0x7e00}, {"infinite by infinite", impl.FDiv, 32, 0x7f800000, 0xff800000, 0x7fc00000},
		{"1 by 0", impl.FDiv, 16, 0x3c00, 0, 0x7c00}, {"1 by -0", impl.FDiv, 16, 0x3c00, 0x8000, 0xfc00}, {"-infinite by 0", impl.FDiv, 32, 0xff800000, 0, 0xff800000},
		{"-1 by infinite", impl.FDiv, 16, 0xbc00, 0x7c00, 0x8000}, {"0 by -1", impl.FDiv, 16, 0, 0xbc00, 0x8000}, {"infinite by -1", impl.FDiv, 16, 0x7c00, 0xbc00, 0xfc00},
		{"1 by 3", impl.FDiv, 16, 0x3c00, 0x4200, 0x3555}, {"least by 2", impl.FDiv, 32, 1, 0x40000000, 0}, {"least by greatest", impl.FDiv, 32, 1, 0x7f7fffff, 0},
		{"greatest by least", impl.FDiv, 32, 0x7f7fffff, 1, 0x7f800000}, {"greatest by half", impl.FDiv, 16, 0x7bff, 0x3800, 0x7c00},
		{"no number", impl.FAdd, 16, 0xfe01, 0x3c00, 0x7e00}, {"no number", impl.FSub, 16, 0x3c00, 0x7c01, 0x7e00},
		{"no number", impl.FMul, 32, 0xffffffff, 0, 0x7fc00000}, {"no number", impl.FDiv, 32, 0x3f800000, 0x7f800001, 0x7fc00000},
		{"two as near, even", impl.FAdd, 16, 0x6800, 0x3c00, 0x6800}, {"two as near, odd", impl.FAdd, 16, 0x6801, 0x3c00, 0x6802},
		{"greatest and its half step", impl.FAdd, 16, 0x7bff, 0x4c00, 0x7c00}, {"greatest and less", impl.FAdd, 16, 0x7bff, 0x4bff, 0x7bff},
		{"greatest with x 0 and least", impl.FAdd, 16, 0x03ff, 1, 0x0400}, {"least with x not 0 less least", impl.FSub, 32, 0x00800000, 1, 0x007fffff},
		{"1 less very little", impl.FSub, 32, 0x3f800000, 1, 0x3f800000}, {"a half step and a little", impl.FAdd, 32, 0x3f800000, 0x33800001, 0x3f800001},
		{"a quarter step and a little away", impl.FSub, 32, 0x3f800000, 0x33000001, 0x3f7fffff}, {"a quarter step away", impl.FSub, 32, 0x3f800000, 0x33000000, 0x3f800000},
		{"bits above", impl.FAdd, 16, 0xffff3c00, 0xabcd3c00, 0x4000}, {"bits above", impl.FMul, 16, 0x80003c00, 0x10000, 0},
		{"bits above", impl.FSub, 16, 0x13c00, 0x3c00, 0}, {"bits above", impl.FDiv, 16, 0x17c00, 0x27c00, 0x7e00},
	} {
		if n := c.work(c.kind, c.a, c.b); n != c.want {
			t.Errorf("%s: kind %d, %x, %x: %x, want %x", c.what, c.kind, c.a, c.b, n, c.want)
		}
	}
	for _, c := range []struct {
		kind    int
		a, want uint32
	}{
		{16, 0, 0}, {16, 0x8000, 0x8000}, {16, 0x8001, 0x7e00}, {16, 0xbc00, 0x7e00}, {16, 0x7c00, 0x7c00}, {16, 0xfc00, 0x7e00}, {16, 0xfe00, 0x7e00},
		{16, 0x4400, 0x4000}, {16, 1, 0x0c00}, {16, 0x7bff, 0x5bff}, {16, 0xffff4400, 0x4000}, {16, 0x18000, 0x8000},
		{32, 0x80000000, 0x80000000}, {32, 0x80000001, 0x7fc00000}, {32, 0xff800000, 0x7fc00000}, {32, 0x7f800000, 0x7f800000},
		{32, 0x41100000, 0x40400000}, {32, 1, 0x1a3504f3}, {32, 0x7f7fffff, 0x5f7fffff}, {32, 0x7f800001, 0x7fc00000},
	} {
		if n := impl.FSqrt(c.kind, c.a); n != c.want {
			t.Errorf("FSqrt(%d, %x) = %x, want %x", c.kind, c.a, n, c.want)
		}
	}
}
