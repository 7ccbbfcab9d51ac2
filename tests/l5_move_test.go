package tests

import (
	"math/rand"
	"strings"
	"testing"

	"loop.example/g00209/impl"
)

func checkCopied(t *testing.T, m impl.Memory, to int, from int, n int) {
	t.Helper()
	got, code := impl.CopyWithin(m, to, from, n)
	wantMemory(t, "CopyWithin", got, code, laid(m, to, m.Data[from:from+n]), impl.MemOk)
}

// Promise 5: what is copied is what stood there, apart, overlapping either way, at one place, and at the very ends.
func TestCopiedWithin(t *testing.T) {
	m := memoryOf(2, 3)
	size := len(m.Data)
	for _, x := range []struct{ to, from, n int }{
		{0, 100, 50}, {100, 0, 50}, {0, 50, 50}, {50, 0, 50}, {0, 1, 50}, {1, 0, 50}, {10, 10, 50}, {0, 0, size}, {1, 0, size - 1}, {0, 1, size - 1},
		{0, 256, 256}, {256, 0, 256}, {200, 100, 156}, {100, 200, 156}, {size - 1, 0, 1}, {0, size - 1, 1},
		{size, 0, 0}, {0, size, 0}, {size, size, 0}, {0, 0, 0}, {7, 9, 0},
	} {
		checkCopied(t, m, x.to, x.from, x.n)
	}
	r := rand.New(rand.NewSource(7))
	for range 20000 {
		m := anyMemory(r)
		to, from := r.Intn(len(m.Data)+1), r.Intn(len(m.Data)+1)
		if r.Intn(2) == 0 {
			from = min(len(m.Data), to+r.Intn(20))
		}
		checkCopied(t, m, to, from, r.Intn(len(m.Data)-max(to, from)+1))
		checkCopied(t, m, from, to, r.Intn(len(m.Data)-max(to, from)+1))
	}
	empty := impl.Memory{Max: 1}
	checkCopied(t, empty, 0, 0, 0)
}

// Promise 5: n times the byte b, and all else stays.
func TestFilled(t *testing.T) {
	m := memoryOf(2, 2)
	for b := range 256 {
		for _, x := range []struct{ at, n int }{{0, 0}, {0, 1}, {0, 512}, {5, 7}, {255, 2}, {511, 1}, {512, 0}, {256, 256}} {
			got, code := impl.FillMemory(m, x.at, b, x.n)
			wantMemory(t, "FillMemory", got, code, laid(m, x.at, strings.Repeat(string([]byte{byte(b)}), x.n)), impl.MemOk)
		}
	}
	got, code := impl.FillMemory(impl.Memory{}, 0, 9, 0)
	wantMemory(t, "nothing filled", got, code, impl.Memory{}, impl.MemOk)
}

// Promise 5: a memory that grows keeps its bytes and has bytes 0 behind; one that can not stays, and tells -1.
func TestGrown(t *testing.T) {
	for most := range 9 {
		for pages := range most + 1 {
			m := memoryOf(pages, most)
			for by := range 9 {
				want, wantWas := m, -1
				if pages+by <= most {
					want, wantWas = impl.Memory{Max: most, Data: m.Data + strings.Repeat("\x00", 256*by)}, pages
				}
				got, was, ok := impl.GrowMemory(m, by)
				if got != want || was != wantWas || !ok {
					t.Errorf("%d pages of %d by %d: %d bytes, Max %d, %d, %t, want %d bytes, %d", pages, most, by, len(got.Data), got.Max, was, ok, len(want.Data), wantWas)
				}
			}
		}
	}
}

// Promise 5: what was out of bounds is within them once the memory has grown.
func TestGrownIsWritten(t *testing.T) {
	m, _ := impl.NewMemory(0, 2)
	if _, code := impl.StoreBytes(m, 0, "a"); code != impl.MemBounds {
		t.Error("nothing there yet:", code)
	}
	for page := range 2 {
		at := 256*page + 255
		if _, code := impl.LoadInt(m, at, 1, false); code != impl.MemBounds {
			t.Error("ahead of page", page, code)
		}
		m, _, _ = impl.GrowMemory(m, 1)
		got, code := impl.StoreInt(m, at, 1, 77)
		wantMemory(t, "last byte", got, code, laid(m, at, "M"), impl.MemOk)
		m = got
	}
	if m.Data[255] != 77 || m.Data[511] != 77 || strings.Count(m.Data, "\x00") != 510 {
		t.Errorf("%x", m.Data)
	}
}
