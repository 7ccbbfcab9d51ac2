package tests

import (
	"math"
	"math/big"
	"math/rand"
	"strings"
	"testing"

	"loop.example/g00209/impl"
)

// badMemories: such as have a Max that is none, no whole number of pages, or more of them than Max.
func badMemories() []impl.Memory {
	bytes := func(n int) string { return strings.Repeat("x", n) }
	return []impl.Memory{
		{Max: -1}, {Max: 9}, {Max: math.MaxInt}, {Max: math.MinInt}, {Max: -8, Data: bytes(256)}, {Max: 9, Data: bytes(256)}, {Max: 9, Data: bytes(9 * 256)},
		{Max: 1, Data: "x"}, {Max: 1, Data: bytes(255)}, {Max: 2, Data: bytes(257)}, {Max: 8, Data: bytes(8*256 - 1)}, {Max: 8, Data: bytes(8*256 + 1)},
		{Max: 0, Data: bytes(256)}, {Max: 1, Data: bytes(512)}, {Max: 7, Data: bytes(8 * 256)}, {Max: 8, Data: bytes(9 * 256)}, {Max: 8, Data: bytes(1 << 20)},
	}
}

// isGood: by trying every number of pages.
func isGood(m impl.Memory) bool {
	for pages := range m.Max + 1 {
		if m.Max <= 8 && len(m.Data) == 256*pages {
			return true
		}
	}
	return false
}

// Promise 5: which memories are good.
func TestGoodMemories(t *testing.T) {
	for pages := range 9 {
		for max := pages; max <= 8; max++ {
			if !impl.GoodMemory(memoryOf(pages, max)) {
				t.Errorf("%d pages of %d are good", pages, max)
			}
		}
	}
	if !impl.GoodMemory(impl.Memory{}) {
		t.Error("the zero memory is good")
	}
	for max := -2; max <= 10; max++ {
		for size := range 10 * 256 {
			m := impl.Memory{Max: max, Data: text(size)}
			if impl.GoodMemory(m) != isGood(m) {
				t.Fatalf("Max %d, %d bytes: %t", max, size, impl.GoodMemory(m))
			}
		}
	}
	for _, m := range badMemories() {
		if impl.GoodMemory(m) {
			t.Errorf("Max %d, %d bytes: good", m.Max, len(m.Data))
		}
	}
}

// Promise 5: pages beyond max, max beyond what there can be, and numbers below 0 make no memory.
func TestNoNewMemory(t *testing.T) {
	for _, x := range [][2]int{{1, 0}, {2, 1}, {9, 8}, {8, 9}, {9, 9}, {0, 9}, {-1, 0}, {-1, 8}, {0, -1}, {-1, -1}, {-2, -1}, {math.MaxInt, 8}, {math.MaxInt, math.MaxInt},
		{math.MinInt, 0}, {0, math.MinInt}, {0, math.MaxInt}, {math.MinInt, math.MinInt}, {1 << 55, 8}, {1 << 56, 1 << 56}} {
		if m, ok := impl.NewMemory(x[0], x[1]); m != (impl.Memory{}) || ok {
			t.Errorf("NewMemory(%d, %d): Max %d, %d bytes, %t", x[0], x[1], m.Max, len(m.Data), ok)
		}
	}
}

// placeCode: what code so many bytes at places have, by numbers of any size; asWell is false where something else is none.
func placeCode(m impl.Memory, asWell bool, n int, places ...int) int {
	if !isGood(m) || !asWell || n < 0 {
		return impl.MemBad
	}
	for _, at := range places {
		if at < 0 {
			return impl.MemBad
		}
	}
	for _, at := range places {
		end := new(big.Int).Add(big.NewInt(int64(at)), big.NewInt(int64(n)))
		if end.Cmp(big.NewInt(int64(len(m.Data)))) > 0 {
			return impl.MemBounds
		}
	}
	return impl.MemOk
}

// wantRefused: what is refused leaves a good memory as it is, and tells the zero memory of another one.
func wantRefused(t *testing.T, what string, m impl.Memory, got impl.Memory, code int, want int) {
	t.Helper()
	if code != want {
		t.Fatalf("%s: code %d, want %d", what, code, want)
	}
	if want == impl.MemOk {
		return
	}
	if !isGood(m) {
		m = impl.Memory{}
	}
	wantMemory(t, what, got, code, m, want)
}

// checkCodes: the codes of all six functions at a place, with another place, a number of bytes and a byte.
func checkCodes(t *testing.T, m impl.Memory, at int, other int, n int, b int) {
	t.Helper()
	s, code := impl.LoadBytes(m, at, n)
	if want := placeCode(m, true, n, at); code != want || code != impl.MemOk && s != "" || code == impl.MemOk && len(s) != n {
		t.Fatalf("LoadBytes at %d, %d of %d bytes: %x, %d, want %d", at, n, len(m.Data), s, code, want)
	}
	number := n == 1 || n == 2 || n == 4 || n == 8
	for _, signed := range []bool{false, true} {
		x, code := impl.LoadInt(m, at, n, signed)
		if want := placeCode(m, number, n, at); code != want || code != impl.MemOk && x != 0 {
			t.Fatalf("LoadInt at %d, %d of %d bytes: %x, %d, want %d", at, n, len(m.Data), x, code, want)
		}
	}
	got, code := impl.StoreInt(m, at, n, math.MaxUint64)
	wantRefused(t, "StoreInt", m, got, code, placeCode(m, number, n, at))
	got, code = impl.CopyWithin(m, at, other, n)
	wantRefused(t, "CopyWithin", m, got, code, placeCode(m, true, n, at, other))
	got, code = impl.CopyWithin(m, other, at, n)
	wantRefused(t, "CopyWithin, turned", m, got, code, placeCode(m, true, n, at, other))
	got, code = impl.FillMemory(m, at, b, n)
	wantRefused(t, "FillMemory", m, got, code, placeCode(m, b >= 0 && b <= 255, n, at))
	if n >= 0 && n < 4000 {
		got, code = impl.StoreBytes(m, at, text(n))
		wantRefused(t, "StoreBytes", m, got, code, placeCode(m, true, n, at))
	}
}

// Promise 5: 0 bytes at the very end are within, beyond it they are not; the last byte is, one past it is not.
func TestMemoryEnds(t *testing.T) {
	for pages := range 9 {
		m := memoryOf(pages, 8)
		end := len(m.Data)
		for n := range 10 {
			for at := max(0, end-n-2); at <= end+2; at++ {
				checkCodes(t, m, at, 0, n, 1)
				checkCodes(t, m, at, end-min(n, end), n, 255)
				checkCodes(t, m, at, end+1, n, 0)
			}
		}
		checkCodes(t, m, 0, 0, end, 0)
		checkCodes(t, m, 0, 0, end+1, 0)
		checkCodes(t, m, 1, 0, end, 0)
		for _, x := range []struct{ at, n, want int }{{end, 0, impl.MemOk}, {end + 1, 0, impl.MemBounds}, {end, 1, impl.MemBounds}, {end + 256, 0, impl.MemBounds}} {
			if s, code := impl.LoadBytes(m, x.at, x.n); s != "" || code != x.want {
				t.Errorf("%d bytes at %d of %d: %x, %d, want %d", x.n, x.at, end, s, code, x.want)
			}
			if got, code := impl.StoreBytes(m, x.at, text(x.n)); got != m || code != x.want {
				t.Errorf("%d bytes to %d of %d: %d, want %d", x.n, x.at, end, code, x.want)
			}
		}
	}
}

// Promise 5: numbers below 0, numbers of bytes that no number has, bytes that are none, and very great places.
func TestMemoryCodes(t *testing.T) {
	places := []int{0, 1, 255, 256, 257, 511, 512, 513, -1, -2, -256, 2048, 1 << 31, 1 << 32, 1 << 62, math.MaxInt - 256, math.MaxInt - 1, math.MaxInt, math.MinInt, math.MinInt + 1}
	counts := []int{0, 1, 2, 3, 4, 5, 7, 8, 9, 16, 256, 512, 513, -1, -8, 1 << 32, 1<<32 + 1, 1 << 62, math.MaxInt - 1, math.MaxInt, math.MinInt}
	memories := append(badMemories()[:14], impl.Memory{}, memoryOf(0, 8), memoryOf(1, 1), memoryOf(2, 4))
	for _, m := range memories {
		for _, at := range places {
			for _, n := range counts {
				for i, b := range []int{0, 255, -1, 256, math.MinInt, math.MaxInt} {
					checkCodes(t, m, at, places[(i*i+n&15)%len(places)], n, b)
				}
			}
		}
	}
	r := rand.New(rand.NewSource(8))
	for range 20000 {
		checkCodes(t, anyMemory(r), r.Intn(2100)-20, r.Intn(2100)-20, r.Intn(20)-1, r.Intn(300)-20)
	}
}

// Promise 5: what is bad counts ahead of what is out of bounds.
func TestMemoryBadFirst(t *testing.T) {
	m := memoryOf(1, 1)
	for i, code := range []int{
		codeOf(impl.CopyWithin(m, 300, -1, 0)), codeOf(impl.CopyWithin(m, -1, 300, 0)), codeOf(impl.CopyWithin(m, 300, 300, -1)),
		codeOf(impl.FillMemory(m, 300, 256, 1)), codeOf(impl.FillMemory(m, 300, -1, 1)), codeOf(impl.FillMemory(m, 300, 0, -1)), codeOf(impl.FillMemory(m, -1, 0, 300)),
		codeOf(impl.StoreInt(m, 300, 3, 0)), codeOf(impl.StoreInt(m, 300, 0, 0)), codeOf(impl.StoreInt(m, 255, 16, 0)), codeOf(impl.StoreBytes(m, -1, text(300))),
	} {
		if code != impl.MemBad {
			t.Errorf("call %d: %d", i, code)
		}
	}
	if impl.MemOk != 0 || impl.MemBad != 1 || impl.MemBounds != 2 {
		t.Error("codes")
	}
}

func codeOf(_ impl.Memory, code int) int { return code }

// Promise 5: a memory that is not good, and a number of pages that is none, don't grow.
func TestNotGrown(t *testing.T) {
	for _, by := range []int{-1, 9, 10, 256, math.MaxInt, math.MinInt, 1 << 55, 1 << 56, -8} {
		for _, m := range []impl.Memory{{}, memoryOf(1, 1), memoryOf(0, 8), memoryOf(3, 8)} {
			if got, was, ok := impl.GrowMemory(m, by); got != m || was != 0 || ok {
				t.Errorf("by %d: %d bytes, Max %d, %d, %t", by, len(got.Data), got.Max, was, ok)
			}
		}
	}
	for _, m := range badMemories() {
		for _, by := range []int{0, 1, 8, 9, -1} {
			if got, was, ok := impl.GrowMemory(m, by); got != (impl.Memory{}) || was != 0 || ok {
				t.Errorf("Max %d, %d bytes, by %d: %d bytes, %d, %t", m.Max, len(m.Data), by, len(got.Data), was, ok)
			}
		}
	}
}
