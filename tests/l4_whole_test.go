package tests

import (
	"math"
	"math/big"
	"math/rand"
	"testing"

	"loop.example/g00209/impl"
)

func wantCompare(x float64, y float64) int {
	switch {
	case x != x || y != y:
		return 2
	case x < y:
		return -1
	case x > y:
		return 1
	}
	return 0
}

func checkOrder(t *testing.T, s floatShape, a uint32, b uint32) {
	t.Helper()
	x, y := s.wide(a), s.wide(b)
	if n := impl.FCompare(s.kind, a, b); n != wantCompare(x, y) {
		t.Fatalf("FCompare(%d, %x, %x) = %d", s.kind, a, b, n)
	}
	want := a
	switch {
	case x != x || y != y:
		want = s.none
	case y < x || x == y && math.Signbit(y):
		want = b
	}
	if n := impl.FMin(s.kind, a, b); n != want {
		t.Fatalf("FMin(%d, %x, %x) = %x, want %x", s.kind, a, b, n, want)
	}
}

// Promise 4: how two lie to each other, and the lesser one.
func TestFloatOrder(t *testing.T) {
	r := rand.New(rand.NewSource(49))
	for _, s := range shapes {
		for _, a := range s.edgeFloats() {
			for _, b := range s.edgeFloats() {
				checkOrder(t, s, a, b)
			}
		}
		for range 50000 {
			a, b := s.anyFloat(r), s.anyFloat(r)
			checkOrder(t, s, a, b)
			checkOrder(t, s, a, a^uint32(r.Intn(4)))
		}
	}
}

func TestFloatOrderWrittenOut(t *testing.T) {
	for _, c := range []struct {
		kind  int
		a, b  uint32
		order int
		least uint32
	}{
		{16, 0, 0x8000, 0, 0x8000}, {16, 0x8000, 0, 0, 0x8000}, {16, 0, 0, 0, 0}, {32, 0x80000000, 0, 0, 0x80000000}, {32, 0, 0x80000000, 0, 0x80000000},
		{16, 0x7e00, 0, 2, 0x7e00}, {16, 0, 0xfc01, 2, 0x7e00}, {16, 0x7c00, 0xffff, 2, 0x7e00}, {32, 0x7f800001, 0x7f800001, 2, 0x7fc00000},
		{16, 0x7c00, 0x7bff, 1, 0x7bff}, {16, 0xfc00, 0xfbff, -1, 0xfc00}, {16, 0x7c00, 0x7c00, 0, 0x7c00}, {32, 0xff800000, 0x7f800000, -1, 0xff800000},
		{16, 0x8001, 0, -1, 0x8001}, {16, 1, 0x8000, 1, 0x8000}, {32, 0xbf800000, 0xbf800001, 1, 0xbf800001}, {32, 0x3f800000, 0x3f800001, -1, 0x3f800000},
		{16, 0xffff3c00, 0x3c00, 0, 0x3c00}, {16, 0x13c00, 0x24000, -1, 0x3c00}, {16, 0x18000, 0x10000, 0, 0x8000},
	} {
		if n := impl.FCompare(c.kind, c.a, c.b); n != c.order {
			t.Errorf("FCompare(%d, %x, %x) = %d, want %d", c.kind, c.a, c.b, n, c.order)
		}
		if n := impl.FMin(c.kind, c.a, c.b); n != c.least {
			t.Errorf("FMin(%d, %x, %x) = %x, want %x", c.kind, c.a, c.b, n, c.least)
		}
	}
}

// wantWhole: the language's own whole numbers are floats of the same kind, or of one bit more.
func wantWhole(s floatShape, mode int, a uint32) uint32 {
	n := s.wide(a)
	switch mode {
	case impl.RoundCeil:
		n = math.Ceil(n)
	case impl.RoundFloor:
		n = math.Floor(n)
	case impl.RoundTrunc:
		n = math.Trunc(n)
	default:
		n = math.RoundToEven(n)
	}
	if n != n || n == 0 || math.IsInf(n, 0) {
		return s.special(n)
	}
	return s.signed(s.nearest(new(big.Rat).SetFloat64(n)), n < 0)
}

func checkWhole(t *testing.T, s floatShape, a uint32) {
	t.Helper()
	for mode := impl.RoundCeil; mode <= impl.RoundNear; mode++ {
		if n, want := impl.FRound(s.kind, mode, a), wantWhole(s, mode, a); n != want {
			t.Fatalf("FRound(%d, %d, %x) = %x, want %x", s.kind, mode, a, n, want)
		}
	}
}

// Promise 4: the whole numbers of the four modes.
func TestFloatRound(t *testing.T) {
	for a := uint32(0); a < 1<<16; a += 3 {
		checkWhole(t, halves, a)
	}
	r := rand.New(rand.NewSource(50))
	for _, s := range shapes {
		for _, a := range s.edgeFloats() {
			checkWhole(t, s, a)
		}
		for range 2000 {
			// Those between a quarter and where all are whole.
			a := uint32(s.bias-2)<<s.p + uint32(r.Intn((s.p+4)<<s.p))
			checkWhole(t, s, a&^(1<<r.Intn(s.p)-1)|s.sign*uint32(r.Intn(2)))
		}
	}
}

func TestFloatRoundWrittenOut(t *testing.T) {
	for _, c := range []struct {
		kind int
		a    uint32
		want [4]uint32
	}{
		{16, 0x3800, [4]uint32{0x3c00, 0, 0, 0}}, {16, 0xb800, [4]uint32{0x8000, 0xbc00, 0x8000, 0x8000}},
		{16, 0x3e00, [4]uint32{0x4000, 0x3c00, 0x3c00, 0x4000}}, {16, 0xbe00, [4]uint32{0xbc00, 0xc000, 0xbc00, 0xc000}},
		{16, 0x4100, [4]uint32{0x4200, 0x4000, 0x4000, 0x4000}}, {16, 0x3801, [4]uint32{0x3c00, 0, 0, 0x3c00}},
		{16, 1, [4]uint32{0x3c00, 0, 0, 0}}, {16, 0x8001, [4]uint32{0x8000, 0xbc00, 0x8000, 0x8000}},
		{16, 0, [4]uint32{0, 0, 0, 0}}, {16, 0x8000, [4]uint32{0x8000, 0x8000, 0x8000, 0x8000}},
		{16, 0x7c00, [4]uint32{0x7c00, 0x7c00, 0x7c00, 0x7c00}}, {16, 0xfc00, [4]uint32{0xfc00, 0xfc00, 0xfc00, 0xfc00}},
		{16, 0xfc01, [4]uint32{0x7e00, 0x7e00, 0x7e00, 0x7e00}}, {16, 0x7bff, [4]uint32{0x7bff, 0x7bff, 0x7bff, 0x7bff}},
		{16, 0x63ff, [4]uint32{0x6400, 0x63fe, 0x63fe, 0x6400}}, {16, 0x13c00, [4]uint32{0x3c00, 0x3c00, 0x3c00, 0x3c00}},
		{32, 0x3f000000, [4]uint32{0x3f800000, 0, 0, 0}}, {32, 0xbf000001, [4]uint32{0x80000000, 0xbf800000, 0x80000000, 0xbf800000}},
		{32, 0x4affffff, [4]uint32{0x4b000000, 0x4afffffe, 0x4afffffe, 0x4b000000}}, {32, 0x4b000001, [4]uint32{0x4b000001, 0x4b000001, 0x4b000001, 0x4b000001}},
		{32, 1, [4]uint32{0x3f800000, 0, 0, 0}}, {32, 0x7f7fffff, [4]uint32{0x7f7fffff, 0x7f7fffff, 0x7f7fffff, 0x7f7fffff}},
		{32, 0x7f800001, [4]uint32{0x7fc00000, 0x7fc00000, 0x7fc00000, 0x7fc00000}},
	} {
		for i, want := range c.want {
			if n := impl.FRound(c.kind, i+1, c.a); n != want {
				t.Errorf("FRound(%d, %d, %x) = %x, want %x", c.kind, i+1, c.a, n, want)
			}
		}
	}
	for _, mode := range []int{0, -1, 5, 255, 1<<32 + 1, math.MaxInt, math.MinInt} {
		for _, s := range shapes {
			for _, a := range s.edgeFloats() {
				if n := impl.FRound(s.kind, mode, a); n != 0 {
					t.Errorf("FRound(%d, %d, %x) = %x", s.kind, mode, a, n)
				}
			}
		}
	}
}

// Promise 4: the nearest to a whole number.
func TestFloatOfInt(t *testing.T) {
	l := []int{0, 1, 2, 3, 65503, 65504, 65505, 65519, 65520, 65521, 65536, math.MaxInt, math.MaxInt - 1}
	for i := range 63 {
		l = append(l, 1<<i-1, 1<<i, 1<<i+1)
	}
	for _, p := range []int{10, 23} {
		// Around the middle between two floats, of all sizes.
		for i := p + 1; i < 63; i++ {
			half := 1 << (i - p - 1)
			for _, n := range []int{1<<i + half, 1<<i + 3*half, 1<<i + half*(1<<(p+1)-1)} {
				l = append(l, n-1, n, n+1)
			}
		}
	}
	for _, w := range someWords(rand.New(rand.NewSource(51)), 2000) {
		l = append(l, int(w))
	}
	for _, n := range l {
		for _, n := range []int{n, -n, ^n} {
			for _, s := range shapes {
				want := s.signed(s.nearest(new(big.Rat).SetInt64(int64(n))), n < 0)
				if a := impl.FOfInt(s.kind, n); a != want {
					t.Fatalf("FOfInt(%d, %d) = %x, want %x", s.kind, n, a, want)
				}
			}
		}
	}
}

func TestFloatOfIntWrittenOut(t *testing.T) {
	for _, c := range []struct {
		kind, n int
		want    uint32
	}{
		{16, 0, 0}, {16, 1, 0x3c00}, {16, -2, 0xc000}, {16, 2049, 0x6800}, {16, 2051, 0x6802}, {16, 65519, 0x7bff}, {16, 65520, 0x7c00}, {16, -65520, 0xfc00},
		{16, math.MaxInt, 0x7c00}, {16, math.MinInt, 0xfc00}, {32, 1<<24 + 1, 0x4b800000}, {32, 1<<24 + 3, 0x4b800002}, {32, -1, 0xbf800000},
		{32, math.MaxInt, 0x5f000000}, {32, math.MinInt, 0xdf000000}, {32, 1<<62 + 1<<38, 0x5e800000}, {32, 1<<62 + 1<<38 + 1, 0x5e800001},
	} {
		if a := impl.FOfInt(c.kind, c.n); a != c.want {
			t.Errorf("FOfInt(%d, %d) = %x, want %x", c.kind, c.n, a, c.want)
		}
	}
}

func wantInt(s floatShape, a uint32, bits int, signed bool) (uint64, int) {
	if !s.isFinite(a) {
		return 0, impl.TrapOverflow
	}
	n := s.exact(a)
	whole := new(big.Int).Quo(n.Num(), n.Denom())
	least, beyond := new(big.Int), power(bits)
	if signed {
		least, beyond = new(big.Int).Neg(power(bits-1)), power(bits-1)
	}
	if whole.Cmp(least) < 0 || whole.Cmp(beyond) >= 0 {
		return 0, impl.TrapOverflow
	}
	return wordOf(bits, whole), impl.TrapNone
}

func checkToInt(t *testing.T, s floatShape, a uint32) {
	t.Helper()
	for _, bits := range []int{32, 64} {
		for _, signed := range []bool{false, true} {
			want, wantTrap := wantInt(s, a, bits, signed)
			if n, trap := impl.FToInt(s.kind, a, bits, signed); n != want || trap != wantTrap {
				t.Fatalf("FToInt(%d, %x, %d, %t) = %x, %d, want %x, %d", s.kind, a, bits, signed, n, trap, want, wantTrap)
			}
		}
	}
}

// Promise 4: floats to whole numbers, of each size; those that are whole come back.
func TestFloatToInt(t *testing.T) {
	for a := range uint32(1 << 16) {
		checkToInt(t, halves, a)
	}
	for _, a := range singles.someFloats(rand.New(rand.NewSource(52)), 10000) {
		checkToInt(t, singles, a)
	}
	for x := range uint32(70) {
		for _, a := range []uint32{(125 + x) << 23, (125+x)<<23 + 1, (125+x)<<23 - 1, (125+x)<<23 + 0x400000} {
			checkToInt(t, singles, a)
			checkToInt(t, singles, a|singles.sign)
		}
	}
	for n := -2048; n <= 2048; n++ {
		for _, s := range shapes {
			want, _ := impl.BitsOf(32, n)
			if m, trap := impl.FToInt(s.kind, impl.FOfInt(s.kind, n), 32, true); m != want || trap != impl.TrapNone {
				t.Fatalf("kind %d: %d comes back as %x, %d", s.kind, n, m, trap)
			}
		}
	}
}

// Promise 4: the bounds met exactly, and passed by one step.
func TestFloatToIntWrittenOut(t *testing.T) {
	for _, c := range []struct {
		kind   int
		a      uint32
		bits   int
		signed bool
		want   uint64
		trap   int
	}{
		{32, 0x4effffff, 32, true, 0x7fffff80, 0}, {32, 0x4f000000, 32, true, 0, impl.TrapOverflow},
		{32, 0xcf000000, 32, true, 0x80000000, 0}, {32, 0xcf000001, 32, true, 0, impl.TrapOverflow},
		{32, 0x4f7fffff, 32, false, 0xffffff00, 0}, {32, 0x4f800000, 32, false, 0, impl.TrapOverflow},
		{32, 0x5effffff, 64, true, 0x7fffff8000000000, 0}, {32, 0x5f000000, 64, true, 0, impl.TrapOverflow},
		{32, 0xdf000000, 64, true, 1 << 63, 0}, {32, 0xdf000001, 64, true, 0, impl.TrapOverflow},
		{32, 0x5f7fffff, 64, false, 0xffffff0000000000, 0}, {32, 0x5f800000, 64, false, 0, impl.TrapOverflow},
		{32, 0xbf7fffff, 32, false, 0, 0}, {32, 0xbf800000, 32, false, 0, impl.TrapOverflow}, {32, 0xbf800000, 64, false, 0, impl.TrapOverflow},
		{32, 0x80000000, 64, false, 0, 0}, {16, 0xbbff, 64, false, 0, 0}, {16, 0xbc00, 32, true, 0xffffffff, 0}, {16, 0xbc00, 64, true, math.MaxUint64, 0},
		{16, 0x7bff, 32, true, 65504, 0}, {16, 0xfbff, 32, true, 0xffff0020, 0}, {16, 0x7bff, 64, false, 65504, 0}, {16, 0x13e00, 32, true, 1, 0},
		{16, 0x7c00, 32, true, 0, impl.TrapOverflow}, {16, 0xfc00, 64, true, 0, impl.TrapOverflow}, {16, 0x7e00, 64, false, 0, impl.TrapOverflow},
		{32, 0x7f800000, 64, false, 0, impl.TrapOverflow}, {32, 0x7f7fffff, 64, true, 0, impl.TrapOverflow}, {32, 0xffc00000, 32, false, 0, impl.TrapOverflow},
		{16, 0x3c00, 16, true, 0, impl.TrapNoOp}, {32, 0x3f800000, 0, true, 0, impl.TrapNoOp}, {32, 0x7fc00000, 33, false, 0, impl.TrapNoOp},
		{32, 0, 63, true, 0, impl.TrapNoOp}, {16, 0x7c00, -32, true, 0, impl.TrapNoOp}, {16, 0, 1<<32 + 32, true, 0, impl.TrapNoOp},
		{0, 0x3c00, 32, true, 0, 0}, {64, 0x7fc00000, 64, true, 0, 0}, {33, 0x7fc00000, 7, true, 0, 0},
	} {
		if n, trap := impl.FToInt(c.kind, c.a, c.bits, c.signed); n != c.want || trap != c.trap {
			t.Errorf("FToInt(%d, %x, %d, %t) = %x, %d, want %x, %d", c.kind, c.a, c.bits, c.signed, n, trap, c.want, c.trap)
		}
	}
}

func checkConvert(t *testing.T, from floatShape, to floatShape, a uint32) {
	t.Helper()
	want := to.special(from.wide(a))
	if from.isFinite(a) {
		want = to.signed(to.nearest(from.exact(a)), a&from.sign != 0)
	}
	if n := impl.FConvert(from.kind, to.kind, a); n != want {
		t.Fatalf("FConvert(%d, %d, %x) = %x, want %x", from.kind, to.kind, a, n, want)
	}
}

// Promise 4: halves come back from singles, and each kind from itself; no numbers as the canonical one.
func TestHalvesComeBackFromSingles(t *testing.T) {
	for a := range uint32(1 << 16) {
		want := a
		if halves.isNone(a) {
			want = halves.none
		}
		if n := impl.FConvert(16, 32, a); n != math.Float32bits(float32(halves.wide(a))) && !halves.isNone(a) {
			t.Fatalf("FConvert(16, 32, %x) = %x", a, n)
		}
		if n := impl.FConvert(32, 16, impl.FConvert(16, 32, a)); n != want {
			t.Fatalf("%x comes back as %x", a, n)
		}
		if n := impl.FConvert(16, 16, a|0xabc0000); n != want {
			t.Fatalf("FConvert(16, 16, %x) = %x", a|0xabc0000, n)
		}
	}
}

// Promise 4: singles told as halves: all edges, and around the middle between two halves.
func TestSinglesAsHalves(t *testing.T) {
	r := rand.New(rand.NewSource(53))
	for _, from := range shapes {
		for _, to := range shapes {
			for _, a := range from.someFloats(r, 1000) {
				checkConvert(t, from, to, a)
			}
		}
	}
	for a := uint32(0); a < halves.infinite; a += 7 {
		middle := math.Float32bits(float32((halves.wide(a) + halves.wide(min(a+1, halves.infinite-1))) / 2))
		for _, n := range []uint32{middle, middle + 1, max(middle, 1) - 1} {
			checkConvert(t, singles, halves, n)
			checkConvert(t, singles, halves, n|singles.sign)
		}
	}
	for a, want := range map[uint32]uint32{0x477fefff: 0x7bff, 0x477ff000: 0x7c00, 0xc77ff000: 0xfc00, 0x33000000: 0, 0x33000001: 1, 0xb3000000: 0x8000,
		0x33800000: 1, 0x387fe000: 0x0400, 0x80000000: 0x8000, 0x7f800001: 0x7e00, 0xffffffff: 0x7e00, 0xff800000: 0xfc00, 0x3f801000: 0x3c00, 0x3f803000: 0x3c02} {
		if n := impl.FConvert(32, 16, a); n != want {
			t.Errorf("FConvert(32, 16, %x) = %x, want %x", a, n, want)
		}
	}
}
