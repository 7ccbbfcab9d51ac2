package tests

import (
	"math"
	"math/big"
	"math/rand"
	"strconv"
	"strings"
	"testing"

	"loop.example/g00209/impl"
)

// wantUnary counts in the number as it is written with all its noughts.
func wantUnary(bits int, op int, a uint64) (uint64, int) {
	n := unsignedBig(bits, a)
	digits := n.Text(2)
	digits = strings.Repeat("0", bits-len(digits)) + digits
	switch op {
	case impl.OpClz:
		return uint64(len(digits) - len(strings.TrimLeft(digits, "0"))), impl.TrapNone
	case impl.OpCtz:
		return uint64(len(digits) - len(strings.TrimRight(digits, "0"))), impl.TrapNone
	case impl.OpPopcnt:
		return uint64(strings.Count(digits, "1")), impl.TrapNone
	case impl.OpEqz:
		return wantOne(n.Sign() == 0).Uint64(), impl.TrapNone
	case impl.OpExtend8:
		return wordOf(bits, signedBig(8, a)), impl.TrapNone
	case impl.OpExtend16:
		return wordOf(bits, signedBig(16, a)), impl.TrapNone
	}
	return 0, impl.TrapNoOp
}

// someWords: the edges, each bit alone, and any words.
func someWords(r *rand.Rand, many int) []uint64 {
	l := edgeWords()
	for i := range 64 {
		l = append(l, 1<<i, math.MaxUint64<<i, math.MaxUint64>>i)
	}
	for range many {
		l = append(l, anyWord(r))
	}
	return l
}

// Promise 3: each operation of one number.
func TestUnaryOperations(t *testing.T) {
	words := someWords(rand.New(rand.NewSource(4)), 3000)
	for _, bits := range []int{32, 64} {
		for op := impl.OpClz; op <= impl.OpExtend16; op++ {
			for _, a := range words {
				want, wantTrap := wantUnary(bits, op, a)
				if n, trap := impl.Unary(bits, op, a); n != want || trap != wantTrap {
					t.Fatalf("Unary(%d, %d, %x) = %x, %d, want %x, %d", bits, op, a, n, trap, want, wantTrap)
				}
			}
		}
	}
}

// Promise 3: some answers written out.
func TestUnaryWrittenOut(t *testing.T) {
	for _, c := range []struct {
		bits, op int
		a, want  uint64
	}{
		{32, impl.OpClz, 0, 32}, {64, impl.OpClz, 0, 64}, {32, impl.OpClz, 1 << 32, 32}, {64, impl.OpClz, 1 << 32, 31},
		{32, impl.OpClz, 1, 31}, {32, impl.OpClz, math.MaxUint64, 0}, {64, impl.OpClz, math.MaxUint64, 0},
		{32, impl.OpCtz, 0, 32}, {64, impl.OpCtz, 0, 64}, {32, impl.OpCtz, 1 << 32, 32}, {64, impl.OpCtz, 1 << 32, 32},
		{32, impl.OpCtz, 1 << 31, 31}, {64, impl.OpCtz, 1 << 63, 63}, {32, impl.OpCtz, 1, 0},
		{32, impl.OpPopcnt, 0, 0}, {32, impl.OpPopcnt, math.MaxUint64, 32}, {64, impl.OpPopcnt, math.MaxUint64, 64},
		{32, impl.OpEqz, 0, 1}, {32, impl.OpEqz, 1 << 32, 1}, {64, impl.OpEqz, 1 << 32, 0}, {64, impl.OpEqz, 0, 1},
		{32, impl.OpExtend8, 0x17f, 0x7f}, {32, impl.OpExtend8, 0x180, 0xffffff80}, {64, impl.OpExtend8, 0x80, math.MaxUint64 - 0x7f},
		{32, impl.OpExtend16, 0x17fff, 0x7fff}, {32, impl.OpExtend16, 0x8000, 0xffff8000}, {64, impl.OpExtend16, 0xffff, math.MaxUint64},
	} {
		if n, trap := impl.Unary(c.bits, c.op, c.a); n != c.want || trap != impl.TrapNone {
			t.Errorf("Unary(%d, %d, %x) = %x, %d, want %x", c.bits, c.op, c.a, n, trap, c.want)
		}
	}
}

// Promise 3: counts of noughts and ones fit.
func TestCountsFit(t *testing.T) {
	for _, bits := range []int{32, 64} {
		for _, a := range someWords(rand.New(rand.NewSource(5)), 3000) {
			ahead, _ := impl.Unary(bits, impl.OpClz, a)
			behind, _ := impl.Unary(bits, impl.OpCtz, a)
			ones, _ := impl.Unary(bits, impl.OpPopcnt, a)
			noughts, _ := impl.Unary(bits, impl.OpPopcnt, ^a)
			none, _ := impl.Unary(bits, impl.OpEqz, a)
			if ones+noughts != uint64(bits) {
				t.Fatalf("%d bits of %x: %d ones and %d noughts", bits, a, ones, noughts)
			}
			if none != wantOne(ones == 0).Uint64() || none == 1 && (ahead != uint64(bits) || behind != uint64(bits)) {
				t.Fatalf("%d bits of %x: %d ones, %d ahead, %d behind, OpEqz %d", bits, a, ones, ahead, behind, none)
			}
			if none == 0 && ahead+behind+ones > uint64(bits) {
				t.Fatalf("%d bits of %x: %d ones, %d ahead, %d behind", bits, a, ones, ahead, behind)
			}
		}
	}
}

// Promise 3: signed numbers and their bits again.
func TestSignedAndBits(t *testing.T) {
	for _, bits := range []int{32, 64} {
		for _, a := range someWords(rand.New(rand.NewSource(6)), 3000) {
			want := signedBig(bits, a).Int64()
			n, ok := impl.SignedOf(bits, a)
			if int64(n) != want || !ok {
				t.Fatalf("SignedOf(%d, %x) = %d, %t, want %d", bits, a, n, ok, want)
			}
			cut := unsignedBig(bits, a).Uint64()
			if b, ok := impl.BitsOf(bits, n); b != cut || !ok {
				t.Fatalf("BitsOf(%d, %d) = %x, %t, want %x", bits, n, b, ok, cut)
			}
			if b, ok := impl.BitsOf(bits, int(a)); b != cut || !ok {
				t.Fatalf("BitsOf(%d, %d) = %x, %t, want %x", bits, int(a), b, ok, cut)
			}
		}
	}
	for _, c := range []struct {
		bits int
		a    uint64
		n    int
	}{
		{32, 1 << 31, math.MinInt32}, {32, 1<<31 - 1, math.MaxInt32}, {32, math.MaxUint64, -1}, {32, 7 << 32, 0},
		{64, 1 << 63, math.MinInt64}, {64, 1<<63 - 1, math.MaxInt64}, {64, math.MaxUint64, -1}, {64, 1 << 31, 1 << 31},
	} {
		if n, ok := impl.SignedOf(c.bits, c.a); n != c.n || !ok {
			t.Errorf("SignedOf(%d, %x) = %d, %t, want %d", c.bits, c.a, n, ok, c.n)
		}
	}
}

// Promise 3: words of 32 bits made of longer ones, and longer ones of them.
func TestWrapAndExtend(t *testing.T) {
	for _, a := range someWords(rand.New(rand.NewSource(7)), 3000) {
		low := unsignedBig(32, a).Uint64()
		if n := impl.WrapTo32(a); n != low {
			t.Fatalf("WrapTo32(%x) = %x", a, n)
		}
		if n := impl.Extend32(a, false); n != low {
			t.Fatalf("Extend32(%x, false) = %x", a, n)
		}
		if n := impl.Extend32(a, true); n != wordOf(64, signedBig(32, a)) {
			t.Fatalf("Extend32(%x, true) = %x", a, n)
		}
	}
	if n := impl.Extend32(0x1_80000000, true); n != 0xffffffff80000000 {
		t.Errorf("Extend32 of the least: %x", n)
	}
	if n := impl.Extend32(math.MaxUint32<<32|1<<31-1, true); n != 1<<31-1 {
		t.Errorf("Extend32 of the greatest: %x", n)
	}
}

// twoWords: hi 2^64 + lo.
func twoWords(hi uint64, lo uint64) *big.Int {
	n := new(big.Int).SetUint64(hi)
	return n.Add(n.Lsh(n, 64), new(big.Int).SetUint64(lo))
}

func checkDiv128(t *testing.T, hi uint64, lo uint64, d uint64) {
	t.Helper()
	var want, wantLeft big.Int
	if d > hi {
		want.QuoRem(twoWords(hi, lo), new(big.Int).SetUint64(d), &wantLeft)
	}
	quotient, left, ok := impl.Div128(hi, lo, d)
	if quotient != want.Uint64() || left != wantLeft.Uint64() || ok != (d > hi) {
		t.Fatalf("Div128(%x, %x, %x) = %x, %x, %t, want %s, %s", hi, lo, d, quotient, left, ok, want.Text(16), wantLeft.Text(16))
	}
}

// Promise 3: a product in two words is divided again.
func TestProductDividedAgain(t *testing.T) {
	words := someWords(rand.New(rand.NewSource(8)), 100)
	for _, a := range words {
		for _, b := range words {
			hi, lo := impl.Mul128(a, b)
			want := new(big.Int).Mul(new(big.Int).SetUint64(a), new(big.Int).SetUint64(b))
			if twoWords(hi, lo).Cmp(want) != 0 {
				t.Fatalf("Mul128(%x, %x) = %x, %x", a, b, hi, lo)
			}
			if b == 0 {
				continue
			}
			if quotient, left, ok := impl.Div128(hi, lo, b); quotient != a || left != 0 || !ok {
				t.Fatalf("Mul128(%x, %x) divided again: %x, %x, %t", a, b, quotient, left, ok)
			}
		}
	}
}

// Promise 3: d one above hi, d at most hi, d 0.
func TestDiv128AtItsEdges(t *testing.T) {
	r := rand.New(rand.NewSource(9))
	words := someWords(r, 100)
	for _, hi := range words {
		for _, lo := range words {
			for _, d := range []uint64{0, 1, hi - 1, hi, hi + 1, hi / 2, math.MaxUint64, lo, r.Uint64()} {
				checkDiv128(t, hi, lo, d)
			}
		}
	}
	if quotient, left, ok := impl.Div128(4, 0, 5); strconv.FormatUint(quotient, 10) != "14757395258967641292" || left != 4 || !ok {
		t.Error(quotient, left, ok)
	}
}
