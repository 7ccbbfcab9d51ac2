package tests

import (
	"math/rand"
	"strings"
	"testing"

	"loop.example/g00209/impl"
)

// memoryOf: a memory of so many pages, whose bytes are all unlike their neighbours.
func memoryOf(pages int, max int) impl.Memory {
	b := make([]byte, 256*pages)
	for i := range b {
		b[i] = byte(7*i + i/256 + 3)
	}
	return impl.Memory{Max: max, Data: string(b)}
}

func anyMemory(r *rand.Rand) impl.Memory {
	pages := r.Intn(9)
	b := make([]byte, 256*pages)
	r.Read(b)
	return impl.Memory{Max: pages + r.Intn(9-pages), Data: string(b)}
}

// laid: the memory with s at a place, and all else as it was, put together of three pieces.
func laid(m impl.Memory, at int, s string) impl.Memory {
	return impl.Memory{Max: m.Max, Data: m.Data[:at] + s + m.Data[at+len(s):]}
}

func wantMemory(t *testing.T, what string, got impl.Memory, code int, want impl.Memory, wantCode int) {
	t.Helper()
	if got != want || code != wantCode {
		t.Fatalf("%s: Max %d, %d bytes, the same: %t; code %d; want Max %d, %d bytes, code %d",
			what, got.Max, len(got.Data), got == want, code, want.Max, len(want.Data), wantCode)
	}
}

// Promise 5: a new memory has as many bytes as asked for, all 0; of no pages, as many as may be, and all there can be.
func TestNewMemory(t *testing.T) {
	for max := range 9 {
		for pages := range max + 1 {
			m, ok := impl.NewMemory(pages, max)
			if !ok || m.Max != max || m.Data != strings.Repeat("\x00", 256*pages) {
				t.Errorf("NewMemory(%d, %d): Max %d, %d bytes, %t", pages, max, m.Max, len(m.Data), ok)
			}
			if !impl.GoodMemory(m) {
				t.Errorf("NewMemory(%d, %d) is not good", pages, max)
			}
		}
	}
	if impl.PageSize != 256 || impl.MaxPages != 8 {
		t.Error(impl.PageSize, impl.MaxPages)
	}
}

// Promise 5: what stands where, written out.
func TestMemoryWrittenOut(t *testing.T) {
	m, _ := impl.NewMemory(1, 2)
	m, code := impl.StoreBytes(m, 3, "abc")
	wantMemory(t, "bytes", m, code, impl.Memory{Max: 2, Data: "\x00\x00\x00abc" + strings.Repeat("\x00", 250)}, impl.MemOk)
	m, code = impl.StoreInt(m, 1, 4, 0x1122334455667788)
	wantMemory(t, "number", m, code, impl.Memory{Max: 2, Data: "\x00\x88\x77\x66\x55c" + strings.Repeat("\x00", 250)}, impl.MemOk)
	m, code = impl.FillMemory(m, 2, 255, 2)
	wantMemory(t, "fill", m, code, impl.Memory{Max: 2, Data: "\x00\x88\xff\xff\x55c" + strings.Repeat("\x00", 250)}, impl.MemOk)
	m, code = impl.CopyWithin(m, 0, 1, 5)
	wantMemory(t, "down", m, code, impl.Memory{Max: 2, Data: "\x88\xff\xff\x55cc" + strings.Repeat("\x00", 250)}, impl.MemOk)
	m, code = impl.CopyWithin(m, 3, 0, 6)
	wantMemory(t, "up", m, code, impl.Memory{Max: 2, Data: "\x88\xff\xff\x88\xff\xff\x55cc" + strings.Repeat("\x00", 247)}, impl.MemOk)
	for _, x := range []struct {
		at, n  int
		signed bool
		want   uint64
	}{
		{0, 1, false, 0x88}, {0, 1, true, 0xffffffffffffff88}, {8, 1, true, 'c'},
		{0, 2, false, 0xff88}, {0, 2, true, 0xffffffffffffff88}, {8, 2, true, 0x63},
		{0, 4, false, 0x88ffff88}, {0, 4, true, 0xffffffff88ffff88}, {6, 4, true, 0x636355},
		{0, 8, false, 0x6355ffff88ffff88}, {0, 8, true, 0x6355ffff88ffff88}, {1, 8, true, 0x636355ffff88ffff}, {248, 8, true, 0},
	} {
		if n, code := impl.LoadInt(m, x.at, x.n, x.signed); n != x.want || code != impl.MemOk {
			t.Errorf("LoadInt at %d of %d, %t: %x, %d, want %x", x.at, x.n, x.signed, n, code, x.want)
		}
	}
	if s, code := impl.LoadBytes(m, 5, 4); s != "\xff\x55cc" || code != impl.MemOk {
		t.Errorf("LoadBytes: %x, %d", s, code)
	}
}

// checkStored: what is stored is loaded again, and all other bytes stay.
func checkStored(t *testing.T, m impl.Memory, at int, s string) {
	t.Helper()
	got, code := impl.StoreBytes(m, at, s)
	wantMemory(t, "StoreBytes", got, code, laid(m, at, s), impl.MemOk)
	if x, code := impl.LoadBytes(got, at, len(s)); x != s || code != impl.MemOk {
		t.Fatalf("stored %x at %d, loaded %x, %d", s, at, x, code)
	}
	if x, code := impl.LoadBytes(m, at, len(s)); x != m.Data[at:at+len(s)] || code != impl.MemOk {
		t.Fatalf("%d bytes at %d: %x, %d", len(s), at, x, code)
	}
}

// Promise 5: bytes at every place of a page and across pages, of none up to all.
func TestStoredBytes(t *testing.T) {
	for pages := range 3 {
		m := memoryOf(pages, 2)
		for at := range len(m.Data) + 1 {
			for _, n := range []int{0, 1, 2, 3, 255, 256, 257, len(m.Data) - at} {
				if at+n <= len(m.Data) {
					checkStored(t, m, at, text(n))
				}
			}
		}
	}
	r := rand.New(rand.NewSource(5))
	for range 5000 {
		m := anyMemory(r)
		at := r.Intn(len(m.Data) + 1)
		s := make([]byte, r.Intn(len(m.Data)-at+1))
		r.Read(s)
		checkStored(t, m, at, string(s))
	}
}

// checkNumber: the lowest n bytes of x are stored, the lowest one first, and loaded with and without their sign.
func checkNumber(t *testing.T, m impl.Memory, at int, n int, x uint64) {
	t.Helper()
	low := wordOf(8*n, unsignedBig(64, x))
	var s []byte
	for rest := low; len(s) < n; rest /= 256 {
		s = append(s, byte(rest%256))
	}
	got, code := impl.StoreInt(m, at, n, x)
	wantMemory(t, "StoreInt", got, code, laid(m, at, string(s)), impl.MemOk)
	if y, code := impl.LoadInt(got, at, n, false); y != low || code != impl.MemOk {
		t.Fatalf("%d bytes of %x: %x, %d", n, x, y, code)
	}
	with := wordOf(64, signedBig(8*n, low))
	if y, code := impl.LoadInt(got, at, n, true); y != with || code != impl.MemOk {
		t.Fatalf("%d bytes of %x, signed: %x, %d, want %x", n, x, y, code, with)
	}
}

// Promise 5: numbers of 1, 2, 4 and 8 bytes, at every place, with the sign bit set and not.
func TestStoredNumbers(t *testing.T) {
	r := rand.New(rand.NewSource(6))
	words := append(edgeWords(), 0x7f, 0x80, 0xff, 0x100, 0x17f, 0x180, 0x7fff, 0x8000, 0xffff, 0x18000, 0x17fff)
	for _, n := range []int{1, 2, 4, 8} {
		m := memoryOf(2, 2)
		for at := range len(m.Data) - n + 1 {
			checkNumber(t, m, at, n, anyWord(r))
		}
		for _, x := range words {
			checkNumber(t, m, 256-n/2, n, x)
			checkNumber(t, m, 512-n, n, x)
			checkNumber(t, m, 0, n, x)
		}
	}
}
