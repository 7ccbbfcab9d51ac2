package tests

import (
	"math"
	"math/big"
	"math/rand"
	"strings"
	"testing"

	"loop.example/g00209/impl"
)

// edgeNumbers: those at which the number of bytes changes, with their neighbours, in every width.
func edgeNumbers() []uint64 {
	l := []uint64{0, math.MaxUint64}
	for i := range 64 {
		p := uint64(1) << i
		l = append(l, p-1, p, p+1, -p, -p-1, -p+1)
	}
	return l
}

// frontGroups works a number at the front of s out by the book: its value, how many bytes it has, and the last of them.
func frontGroups(s string, bits int) (*big.Int, int, byte, bool) {
	n := new(big.Int)
	for i := 0; i < len(s) && i < (bits+6)/7; i++ {
		group := big.NewInt(int64(s[i] & 127))
		n.Add(n, group.Lsh(group, uint(7*i)))
		if s[i] < 128 {
			return n, i + 1, s[i], true
		}
	}
	return nil, 0, 0, false
}

func powerOfTwo(n int) *big.Int {
	return new(big.Int).Lsh(big.NewInt(1), uint(n))
}

func wantUleb(s string, bits int) (uint64, int) {
	if bits < 1 || bits > 64 {
		return 0, 0
	}
	n, took, _, ok := frontGroups(s, bits)
	if !ok || n.Cmp(powerOfTwo(bits)) >= 0 {
		return 0, 0
	}
	return n.Uint64(), took
}

func wantSleb(s string, bits int) (int, int) {
	if bits < 1 || bits > 64 {
		return 0, 0
	}
	n, took, last, ok := frontGroups(s, bits)
	if !ok {
		return 0, 0
	}
	if last&64 != 0 {
		n.Sub(n, powerOfTwo(7*took))
	}
	half := powerOfTwo(bits - 1)
	if n.Cmp(half) >= 0 || n.Cmp(new(big.Int).Neg(half)) < 0 {
		return 0, 0
	}
	return int(n.Int64()), took
}

func checkTakes(t *testing.T, s string, bits int) {
	t.Helper()
	u, took := impl.TakeUleb(s, bits)
	if want, size := wantUleb(s, bits); u != want || took != size {
		t.Fatalf("TakeUleb(%x, %d) = %d, %d, want %d, %d", s, bits, u, took, want, size)
	}
	n, took := impl.TakeSleb(s, bits)
	if want, size := wantSleb(s, bits); n != want || took != size {
		t.Fatalf("TakeSleb(%x, %d) = %d, %d, want %d, %d", s, bits, n, took, want, size)
	}
}

// Promise 1: numbers come back from their bytes, alone and with others behind, and the bytes are as few as can be.
func TestUlebComesBack(t *testing.T) {
	for _, n := range edgeNumbers() {
		s := impl.UlebBytes(n)
		if impl.UlebSize(n) != len(s) {
			t.Errorf("UlebSize(%d) = %d, but bytes %x", n, impl.UlebSize(n), s)
		}
		if len(s) > 1 && s[len(s)-1] == 0 {
			t.Errorf("UlebBytes(%d) = %x, longer than needed", n, s)
		}
		for _, behind := range []string{"", "\x00", "\x7f", "\x80", "\xff\xff", "rest"} {
			if m, took := impl.TakeUleb(s+behind, 64); m != n || took != len(s) {
				t.Errorf("TakeUleb(%x) = %d, %d, want %d, %d", s+behind, m, took, n, len(s))
			}
		}
		for bits := 1; bits <= 64; bits++ {
			checkTakes(t, s, bits)
		}
	}
}

func TestSlebComesBack(t *testing.T) {
	for _, u := range edgeNumbers() {
		n := int(u)
		s := impl.SlebBytes(n)
		if k := len(s); k > 1 && (s[k-1] == 0 && s[k-2]&64 == 0 || s[k-1] == 127 && s[k-2]&64 != 0) {
			t.Errorf("SlebBytes(%d) = %x, longer than needed", n, s)
		}
		for _, behind := range []string{"", "\x00", "\x7f", "\x80", "\xff\xff", "rest"} {
			if m, took := impl.TakeSleb(s+behind, 64); m != n || took != len(s) {
				t.Errorf("TakeSleb(%x) = %d, %d, want %d, %d", s+behind, m, took, n, len(s))
			}
		}
		for bits := 1; bits <= 64; bits++ {
			checkTakes(t, s, bits)
		}
	}
}

func TestNumbersBytesByHand(t *testing.T) {
	unsigned := []struct {
		n uint64
		s string
	}{
		{0, "\x00"}, {1, "\x01"}, {127, "\x7f"}, {128, "\x80\x01"}, {16383, "\xff\x7f"}, {16384, "\x80\x80\x01"},
		{624485, "\xe5\x8e\x26"}, {math.MaxUint32, "\xff\xff\xff\xff\x0f"},
		{1 << 63, "\x80\x80\x80\x80\x80\x80\x80\x80\x80\x01"}, {math.MaxUint64, "\xff\xff\xff\xff\xff\xff\xff\xff\xff\x01"},
	}
	for _, x := range unsigned {
		if s := impl.UlebBytes(x.n); s != x.s {
			t.Errorf("UlebBytes(%d) = %x, want %x", x.n, s, x.s)
		}
	}
	signed := []struct {
		n int
		s string
	}{
		{0, "\x00"}, {1, "\x01"}, {-1, "\x7f"}, {63, "\x3f"}, {64, "\xc0\x00"}, {-64, "\x40"}, {-65, "\xbf\x7f"},
		{127, "\xff\x00"}, {128, "\x80\x01"}, {-128, "\x80\x7f"}, {8191, "\xff\x3f"}, {8192, "\x80\xc0\x00"}, {-8192, "\x80\x40"},
		{-123456, "\xc0\xbb\x78"}, {math.MaxInt32, "\xff\xff\xff\xff\x07"}, {math.MinInt32, "\x80\x80\x80\x80\x78"},
		{math.MaxInt, "\xff\xff\xff\xff\xff\xff\xff\xff\xff\x00"}, {math.MinInt, "\x80\x80\x80\x80\x80\x80\x80\x80\x80\x7f"},
	}
	for _, x := range signed {
		if s := impl.SlebBytes(x.n); s != x.s {
			t.Errorf("SlebBytes(%d) = %x, want %x", x.n, s, x.s)
		}
	}
}

func TestTakeUlebEdges(t *testing.T) {
	for _, x := range []struct {
		s    string
		bits int
		n    uint64
		took int
	}{
		// bits 1 and 64
		{"\x00", 1, 0, 1}, {"\x01", 1, 1, 1}, {"\x02", 1, 0, 0}, {"\x7f", 1, 0, 0}, {"\x81\x00", 1, 0, 0},
		{"\xff\xff\xff\xff\xff\xff\xff\xff\xff\x01", 64, math.MaxUint64, 10},
		{"\xff\xff\xff\xff\xff\xff\xff\xff\xff\x02", 64, 0, 0}, {"\xff\xff\xff\xff\xff\xff\xff\xff\xff\x03", 64, 0, 0},
		{"\x80\x80\x80\x80\x80\x80\x80\x80\x80\x02", 64, 0, 0}, {"\x80\x80\x80\x80\x80\x80\x80\x80\x80\x40", 64, 0, 0},
		// longer than needed, as long as may be, one byte more
		{"\x80\x00", 32, 0, 2}, {"\x81\x80\x00", 32, 1, 3}, {"\x81\x80\x80\x80\x00", 32, 1, 5}, {"\x81\x80\x80\x80\x80\x00", 32, 0, 0},
		{"\x85\x80\x80\x80\x80\x80\x80\x80\x80\x00", 64, 5, 10}, {"\x85\x80\x80\x80\x80\x80\x80\x80\x80\x80\x00", 64, 0, 0},
		{"\x80\x00", 8, 0, 2}, {"\x80\x00", 7, 0, 0}, {"\x80\x80\x00", 14, 0, 0}, {"\x80\x80\x00", 15, 0, 3},
		// the greatest number, and the bits of the last byte beyond bits
		{"\xff\xff\xff\xff\x0f", 32, math.MaxUint32, 5}, {"\x80\x80\x80\x80\x10", 32, 0, 0}, {"\xff\xff\xff\xff\x4f", 32, 0, 0},
		{"\xff\x01", 8, 255, 2}, {"\x80\x02", 8, 0, 0}, {"\x7f", 7, 127, 1}, {"\x3f", 6, 63, 1}, {"\x40", 6, 0, 0},
		// bytes that lack
		{"", 32, 0, 0}, {"\x80", 32, 0, 0}, {"\xff\xff", 64, 0, 0}, {"\x80\x80\x80\x80", 32, 0, 0}, {"\xff\xff\xff\xff\xff", 32, 0, 0},
		// bits out of 1..64
		{"\x00", 0, 0, 0}, {"\x01", 0, 0, 0}, {"\x01", -1, 0, 0}, {"\x01", 65, 0, 0}, {"\x01", 70, 0, 0},
		{"\x01", math.MaxInt, 0, 0}, {"\x01", math.MinInt, 0, 0},
	} {
		if n, took := impl.TakeUleb(x.s, x.bits); n != x.n || took != x.took {
			t.Errorf("TakeUleb(%x, %d) = %d, %d, want %d, %d", x.s, x.bits, n, took, x.n, x.took)
		}
	}
}

func TestTakeSlebEdges(t *testing.T) {
	for _, x := range []struct {
		s    string
		bits int
		n    int
		took int
	}{
		// bits 1 and 64
		{"\x00", 1, 0, 1}, {"\x7f", 1, -1, 1}, {"\x01", 1, 0, 0}, {"\x40", 1, 0, 0}, {"\x7e", 1, 0, 0}, {"\x80\x00", 1, 0, 0},
		{"\xff\xff\xff\xff\xff\xff\xff\xff\xff\x00", 64, math.MaxInt, 10},
		{"\x80\x80\x80\x80\x80\x80\x80\x80\x80\x7f", 64, math.MinInt, 10},
		{"\xff\xff\xff\xff\xff\xff\xff\xff\xff\x01", 64, 0, 0}, {"\x80\x80\x80\x80\x80\x80\x80\x80\x80\x01", 64, 0, 0},
		{"\x80\x80\x80\x80\x80\x80\x80\x80\x80\x7e", 64, 0, 0}, {"\x80\x80\x80\x80\x80\x80\x80\x80\x80\x3f", 64, 0, 0},
		{"\xff\xff\xff\xff\xff\xff\xff\xff\xff\x7f", 64, -1, 10},
		// longer than needed, as long as may be, one byte more
		{"\x80\x00", 32, 0, 2}, {"\xff\x7f", 32, -1, 2}, {"\xff\xff\xff\xff\x7f", 32, -1, 5}, {"\xff\xff\xff\xff\xff\x7f", 32, 0, 0},
		{"\x81\x80\x80\x80\x00", 32, 1, 5}, {"\x81\x80\x80\x80\x80\x00", 32, 0, 0},
		{"\xff\x7f", 8, -1, 2}, {"\xff\x7f", 7, 0, 0},
		// the greatest and the least number, and the bits of the last byte beyond bits
		{"\xff\xff\xff\xff\x07", 32, math.MaxInt32, 5}, {"\x80\x80\x80\x80\x78", 32, math.MinInt32, 5},
		{"\x80\x80\x80\x80\x08", 32, 0, 0}, {"\xff\xff\xff\xff\x0f", 32, 0, 0}, {"\xff\xff\xff\xff\x77", 32, 0, 0},
		{"\x80\x80\x80\x80\x38", 32, 0, 0}, {"\x80\x80\x80\x80\x68", 32, 0, 0}, {"\xff\xff\xff\xff\x47", 32, 0, 0},
		{"\x3f", 7, 63, 1}, {"\x40", 7, -64, 1}, {"\x1f", 6, 31, 1}, {"\x60", 6, -32, 1}, {"\x20", 6, 0, 0}, {"\x5f", 6, 0, 0},
		{"\xff\x00", 8, 127, 2}, {"\x80\x7f", 8, -128, 2}, {"\x80\x01", 8, 0, 0}, {"\xff\x7e", 8, 0, 0},
		// bytes that lack
		{"", 32, 0, 0}, {"\x80", 32, 0, 0}, {"\xff\xff", 64, 0, 0}, {"\xff\xff\xff\xff\xff", 32, 0, 0},
		// bits out of 1..64
		{"\x00", 0, 0, 0}, {"\x7f", 0, 0, 0}, {"\x7f", -1, 0, 0}, {"\x7f", 65, 0, 0}, {"\x7f", 70, 0, 0},
		{"\x7f", math.MaxInt, 0, 0}, {"\x7f", math.MinInt, 0, 0},
	} {
		if n, took := impl.TakeSleb(x.s, x.bits); n != x.n || took != x.took {
			t.Errorf("TakeSleb(%x, %d) = %d, %d, want %d, %d", x.s, x.bits, n, took, x.n, x.took)
		}
	}
}

// Of each width the greatest and the least number are taken, and the next ones beyond are not.
func TestTakesLimitsOfEachWidth(t *testing.T) {
	for bits := 1; bits <= 63; bits++ {
		top := uint64(1) << bits
		if n, took := impl.TakeUleb(impl.UlebBytes(top-1), bits); n != top-1 || took != impl.UlebSize(top-1) {
			t.Error("greatest of", bits, n, took)
		}
		if n, took := impl.TakeUleb(impl.UlebBytes(top), bits); n != 0 || took != 0 {
			t.Error("one more than", bits, n, took)
		}
		half := 1 << (bits - 1)
		for _, n := range []int{half - 1, -half} {
			if m, took := impl.TakeSleb(impl.SlebBytes(n), bits); m != n || took == 0 {
				t.Error("limit of", bits, n, m, took)
			}
		}
		for _, n := range []int{half, -half - 1} {
			if m, took := impl.TakeSleb(impl.SlebBytes(n), bits); m != 0 || took != 0 {
				t.Error("beyond", bits, n, m, took)
			}
		}
	}
}

// Every text of at most two bytes, and longer ones of telling bytes, against the numbers worked out by the book.
func TestTakesAgainstTheBook(t *testing.T) {
	widths := []int{-1, 0, 1, 2, 6, 7, 8, 9, 13, 14, 15, 31, 32, 33, 63, 64, 65, 70}
	for a := range 256 {
		for _, bits := range widths {
			checkTakes(t, string([]byte{byte(a)}), bits)
			for b := range 256 {
				checkTakes(t, string([]byte{byte(a), byte(b)}), bits)
			}
		}
	}
	r := rand.New(rand.NewSource(1))
	telling := "\x00\x01\x02\x07\x08\x0f\x10\x3f\x40\x78\x7e\x7f\x80\x81\xbf\xc0\xfe\xff"
	for range 200000 {
		s := make([]byte, r.Intn(13))
		for i := range s {
			s[i] = telling[r.Intn(len(telling))]
			if i < 9 && r.Intn(4) > 0 {
				s[i] |= 128
			}
		}
		checkTakes(t, string(s), r.Intn(68)-1)
	}
	checkTakes(t, strings.Repeat("\x80", 5000), 64)
}
