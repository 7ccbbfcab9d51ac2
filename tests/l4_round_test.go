package tests

import (
	"math/big"
	"math/bits"
	"math/rand"
	"testing"

	"loop.example/g00209/impl"
)

// checkRound: with more something is put behind m: little of it, a half, and nearly 1.
func checkRound(t *testing.T, s floatShape, neg bool, m uint64, e int, more bool) {
	t.Helper()
	a, ok := impl.RoundFloat(s.kind, neg, m, e, more)
	if m >= 1<<60 || e < -1000 || e > 1000 || more && bits.Len64(m) < s.p+3 {
		if a != 0 || ok {
			t.Fatalf("RoundFloat(%d, %t, %d, %d, %t) = %x, %t", s.kind, neg, m, e, more, a, ok)
		}
		return
	}
	behind := []*big.Rat{new(big.Rat)}
	if more {
		behind = []*big.Rat{big.NewRat(1, 1<<40), big.NewRat(1, 2), big.NewRat(1<<40-1, 1<<40)}
	}
	for _, x := range behind {
		n := new(big.Rat).Add(x, timesPower(new(big.Int).SetUint64(m), 0))
		want := s.signed(s.nearest(n.Mul(n, timesPower(big.NewInt(1), e))), neg)
		if a != want || !ok {
			t.Fatalf("RoundFloat(%d, %t, %d, %d, %t) = %x, %t, want %x", s.kind, neg, m, e, more, a, ok, want)
		}
	}
}

// roundNumbers: of every length the least, the greatest, and those around the middle between two floats.
func roundNumbers(s floatShape) []uint64 {
	l := []uint64{0, 1, 2, 3, 1<<60 - 1, 1<<60 - 2}
	for n := 1; n < 60; n++ {
		l = append(l, 1<<n-1, 1<<n, 1<<n+1)
	}
	for n := s.p + 1; n < 60; n += 7 {
		half := uint64(1) << max(n-s.p-2, 0)
		for _, m := range []uint64{1<<n - half, 1<<n + half, 1<<n + 3*half} {
			l = append(l, m-1, m, m+1)
		}
	}
	return l
}

// Promise 4: the nearest one at all lengths of m, with exponents that lead below the least, beyond the greatest,
// and to where both begin.
func TestRoundFloat(t *testing.T) {
	for _, s := range shapes {
		for i, m := range roundNumbers(s) {
			length := bits.Len64(m)
			least, greatest := 1-s.bias-s.p, s.bias+1
			for _, e := range []int{0, -1, least, least + 1, least - 1, least - length, least - length - 1, least - length + 1,
				least + s.p - length, least + s.p + 1 - length, least + s.p - 1 - length,
				greatest - length, greatest - length + 1, greatest - length - 1, 1000, -1000} {
				checkRound(t, s, i%2 == 0, m, e, false)
				checkRound(t, s, i%2 == 0, m, e, true)
			}
		}
	}
}

func TestRoundFloatOfAnything(t *testing.T) {
	r := rand.New(rand.NewSource(42))
	for range 3000 {
		for _, s := range shapes {
			m := r.Uint64() >> 4 >> r.Intn(60)
			if r.Intn(2) == 0 {
				m = m >> r.Intn(60) << r.Intn(60) & (1<<60 - 1)
			}
			checkRound(t, s, r.Intn(2) == 0, m, r.Intn(2*s.bias+60)-s.bias-50, r.Intn(2) == 0)
		}
	}
}

// Promise 4: some answers written out; the limits are met exactly.
func TestRoundFloatWrittenOut(t *testing.T) {
	for _, c := range []struct {
		kind int
		neg  bool
		m    uint64
		e    int
		more bool
		want uint32
	}{
		{16, false, 0, 0, false, 0}, {16, true, 0, 0, false, 0x8000}, {32, false, 0, 1000, false, 0}, {32, false, 0, -1000, false, 0},
		{16, false, 1, 0, false, 0x3c00}, {16, true, 1, 1, false, 0xc000}, {32, false, 3, -1, false, 0x3fc00000},
		{16, false, 2049, 0, false, 0x6800}, {16, false, 2051, 0, false, 0x6802}, {16, false, 2050, 0, false, 0x6801},
		{16, false, 4098, 0, true, 0x6c01}, {16, false, 4096, 0, true, 0x6c00}, {16, false, 4097, 0, true, 0x6c00},
		{16, false, 4095, 0, false, 0x6c00}, {16, false, 65504, 0, false, 0x7bff}, {16, false, 65519, 0, false, 0x7bff},
		{16, false, 65519, 0, true, 0x7bff}, {16, false, 65520, 0, false, 0x7c00}, {16, true, 65520, 0, true, 0xfc00},
		{16, false, 1, -24, false, 1}, {16, false, 1, -25, false, 0}, {16, true, 1, -25, false, 0x8000}, {16, false, 3, -25, false, 2},
		{16, false, 3, -26, false, 1}, {16, false, 1 << 12, -37, true, 1}, {16, false, 1<<12 + 1, -37, false, 1}, {16, false, 1<<13 - 1, -38, true, 0},
		{16, false, 2047, -25, false, 0x400}, {16, false, 2045, -25, false, 0x3fe}, {32, false, 1<<24 - 1, -150, false, 0x00800000},
		{32, false, 1<<24 - 1, 104, false, 0x7f7fffff}, {32, false, 1<<25 - 1, 103, false, 0x7f800000}, {32, true, 1<<25 - 1, 103, false, 0xff800000},
		{32, false, 1<<26 - 3, 102, false, 0x7f7fffff}, {32, false, 1<<26 - 3, 102, true, 0x7f7fffff}, {32, false, 1<<26 - 2, 102, false, 0x7f800000},
		{32, false, 1<<24 + 1, 0, false, 0x4b800000}, {32, false, 1<<25 + 2, 0, false, 0x4c000000}, {32, false, 1<<25 + 2, 0, true, 0x4c000001},
		{32, false, 1<<60 - 1, 0, false, 0x5d800000}, {32, true, 1<<60 - 1, -1000, true, 0x80000000}, {32, false, 1, 1000, false, 0x7f800000},
		{16, false, 1<<60 - 1, 1000, true, 0x7c00}, {16, true, 1, -1000, false, 0x8000},
	} {
		if a, ok := impl.RoundFloat(c.kind, c.neg, c.m, c.e, c.more); a != c.want || !ok {
			t.Errorf("RoundFloat(%d, %t, %d, %d, %t) = %x, %t, want %x", c.kind, c.neg, c.m, c.e, c.more, a, ok, c.want)
		}
	}
}

// What RoundFloat refuses, one step beyond each limit.
func TestRoundFloatRefuses(t *testing.T) {
	for _, c := range []struct {
		kind int
		m    uint64
		e    int
		more bool
	}{
		{16, 1 << 60, 0, false}, {32, 1 << 60, 0, true}, {16, 1 << 63, 0, false}, {32, 1<<64 - 1, -60, false},
		{16, 1, 1001, false}, {16, 1, -1001, false}, {32, 0, 1001, false}, {32, 0, -1001, false}, {32, 1 << 40, -1 << 63, true}, {32, 1, 1<<63 - 1, false},
		{16, 1<<12 - 1, 0, true}, {32, 1<<25 - 1, 0, true}, {16, 0, 0, true}, {32, 0, 0, true}, {32, 1 << 12, 0, true},
		{0, 1, 0, false}, {64, 1, 0, false}, {-16, 1, 0, false}, {17, 1 << 30, 0, true},
	} {
		if a, ok := impl.RoundFloat(c.kind, true, c.m, c.e, c.more); a != 0 || ok {
			t.Errorf("RoundFloat(%d, true, %d, %d, %t) = %x, %t", c.kind, c.m, c.e, c.more, a, ok)
		}
	}
}
