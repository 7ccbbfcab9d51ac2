package tests

import (
	"math"
	"slices"
	"testing"

	"loop.example/g00209/impl"
)

var threeCodes = []int{impl.CodeUtf8, impl.CodeUtf16, impl.CodeLatin}

// The points at which the document changes its word, and those beside them.
var edgePoints = []int{0, 1, 127, 128, 255, 256, 2047, 2048, 55295, 57344, 65535, 65536, 65536 + 1023, 65536 + 1024, 1114111}

// wantPoint: the bytes of a good point, by the document's words; none where the code has none.
func wantPoint(p int, code int) string {
	var b []byte
	lower := func(n int) byte { return byte(128 + p>>(6*n)%64) }
	switch {
	case code == impl.CodeLatin && p > 255:
	case code == impl.CodeLatin, code == impl.CodeUtf8 && p < 128:
		b = []byte{byte(p)}
	case code == impl.CodeUtf16 && p < 65536:
		b = []byte{byte(p % 256), byte(p / 256)}
	case code == impl.CodeUtf16:
		up, low := 55296+(p-65536)/1024, 56320+(p-65536)%1024
		b = []byte{byte(up % 256), byte(up / 256), byte(low % 256), byte(low / 256)}
	case p < 2048:
		b = []byte{byte(192 + p>>6), lower(0)}
	case p < 65536:
		b = []byte{byte(224 + p>>12), lower(1), lower(0)}
	default:
		b = []byte{byte(240 + p>>18), lower(2), lower(1), lower(0)}
	}
	return string(b)
}

// wantPoints: the bytes of good points, and whether the code has them all.
func wantPoints(l []int, code int) (string, bool) {
	s := ""
	for _, p := range l {
		x := wantPoint(p, code)
		if x == "" {
			return "", false
		}
		s += x
	}
	return s, true
}

func manyPoints(n int, p int) []int {
	return slices.Repeat([]int{p}, n)
}

// checkEncoded: good points have the bytes they should have in each code, and come back from them.
func checkEncoded(t *testing.T, l []int) {
	t.Helper()
	if !impl.GoodPoints(l) {
		t.Fatal("GoodPoints refuses", l)
	}
	for _, code := range threeCodes {
		want, wantOk := wantPoints(l, code)
		if s, ok := impl.EncodePoints(l, code); s != want || ok != wantOk {
			t.Fatalf("EncodePoints(%v, %d) = %x, %t, want %x, %t", l, code, s, ok, want, wantOk)
		}
		if n, ok := impl.SizeAs(l, code); n != len(want) || ok != wantOk {
			t.Fatalf("SizeAs(%v, %d) = %d, %t, want %d, %t", l, code, n, ok, len(want), wantOk)
		}
		if !wantOk {
			continue
		}
		if x, ok := impl.DecodePoints(want, code); !slices.Equal(x, l) || !ok {
			t.Fatalf("DecodePoints(%x, %d) = %v, %t, want %v", want, code, x, ok, l)
		}
	}
	utf8, _ := wantPoints(l, impl.CodeUtf8)
	if n, ok := impl.CountPoints(utf8); n != len(l) || !ok {
		t.Fatalf("CountPoints(%x) = %d, %t, want %d", utf8, n, ok, len(l))
	}
}

// checkCompact: compact bytes are of CodeLatin where they can be, and the points come back from them.
func checkCompact(t *testing.T, l []int) {
	t.Helper()
	want, latin := wantPoints(l, impl.CodeLatin)
	if !latin {
		want, _ = wantPoints(l, impl.CodeUtf16)
	}
	if s, wide, ok := impl.CompactBytes(l); s != want || wide == latin || !ok {
		t.Fatalf("CompactBytes(%v) = %x, %t, %t, want %x, %t", l, s, wide, ok, want, !latin)
	}
	if x, ok := impl.CompactPoints(want, !latin); !slices.Equal(x, l) || !ok {
		t.Fatalf("CompactPoints(%x, %t) = %v, %t, want %v", want, !latin, x, ok, l)
	}
}

// checkTranscoded: a text told in another code and back is itself, if the other one has its points.
func checkTranscoded(t *testing.T, l []int) {
	t.Helper()
	for _, from := range threeCodes {
		s, ok := wantPoints(l, from)
		if !ok {
			continue
		}
		for _, to := range threeCodes {
			want, wantOk := wantPoints(l, to)
			x, ok := impl.Transcode(s, from, to)
			if x != want || ok != wantOk {
				t.Fatalf("Transcode(%x, %d, %d) = %x, %t, want %x, %t", s, from, to, x, ok, want, wantOk)
			}
			if back, backOk := impl.Transcode(x, to, from); wantOk && (back != s || !backOk) {
				t.Fatalf("Transcode(%x, %d, %d) = %x, %t, want %x", x, to, from, back, backOk, s)
			}
		}
	}
}

// The constants as the document tells them; the other tests take them by name.
func TestTextConstants(t *testing.T) {
	got := [4]int{impl.MaxPoints, impl.CodeUtf8, impl.CodeUtf16, impl.CodeLatin}
	if got != [4]int{300, 1, 2, 3} {
		t.Error(got)
	}
}

// Promise 2: points come back from each code, and texts from another one.
func TestPointsComeBack(t *testing.T) {
	lists := [][]int{nil, {}, {97, 228, 8364, 128512}, {104, 105}, {65, 255}, {65, 256}, {0, 0}, {65533}, edgePoints,
		{55295, 57344}, {57344, 55295}, {65279, 97}, {65534, 65535}}
	for _, p := range edgePoints {
		lists = append(lists, []int{p}, []int{97, p}, []int{p, 97}, []int{p, p}, manyPoints(impl.MaxPoints, p))
	}
	for _, l := range lists {
		checkEncoded(t, l)
		checkCompact(t, l)
		checkTranscoded(t, l)
	}
}

// Promise 2: of all points there are.
func TestEveryPointComesBack(t *testing.T) {
	var l []int
	for p := 0; p <= 1114111; p++ {
		if p == 55296 {
			p = 57344
		}
		l = append(l, p)
		if len(l) == impl.MaxPoints || p == 1114111 {
			checkEncoded(t, l)
			l = nil
		}
	}
}

// Promise 2: the bytes that the document's words lead to, told as they are.
func TestPointsAsBytes(t *testing.T) {
	for _, x := range []struct {
		p           int
		utf8, utf16 string
	}{
		{0, "\x00", "\x00\x00"},
		{127, "\x7f", "\x7f\x00"},
		{128, "\xc2\x80", "\x80\x00"},
		{255, "\xc3\xbf", "\xff\x00"},
		{256, "\xc4\x80", "\x00\x01"},
		{2047, "\xdf\xbf", "\xff\x07"},
		{2048, "\xe0\xa0\x80", "\x00\x08"},
		{55295, "\xed\x9f\xbf", "\xff\xd7"},
		{57344, "\xee\x80\x80", "\x00\xe0"},
		{65533, "\xef\xbf\xbd", "\xfd\xff"},
		{65535, "\xef\xbf\xbf", "\xff\xff"},
		{65536, "\xf0\x90\x80\x80", "\x00\xd8\x00\xdc"},
		{128512, "\xf0\x9f\x98\x80", "\x3d\xd8\x00\xde"},
		{1114111, "\xf4\x8f\xbf\xbf", "\xff\xdb\xff\xdf"},
	} {
		if s, ok := impl.EncodePoints([]int{x.p}, impl.CodeUtf8); s != x.utf8 || !ok {
			t.Errorf("%d in CodeUtf8: %x, %t, want %x", x.p, s, ok, x.utf8)
		}
		if s, ok := impl.EncodePoints([]int{x.p}, impl.CodeUtf16); s != x.utf16 || !ok {
			t.Errorf("%d in CodeUtf16: %x, %t, want %x", x.p, s, ok, x.utf16)
		}
	}
}

// Promise 2, wrong inputs: points that are none, or too many.
func TestBadPoints(t *testing.T) {
	lists := [][]int{manyPoints(impl.MaxPoints+1, 97), manyPoints(impl.MaxPoints+1, 65536), manyPoints(2*impl.MaxPoints, 0)}
	for _, p := range []int{-1, -97, 55296, 55297, 56319, 56320, 57343, 1114112, 1 << 21, 1<<32 + 97, 1 << 32, -1 << 32, math.MaxInt32, math.MaxInt, math.MinInt} {
		lists = append(lists, []int{p}, []int{97, p}, []int{p, 97}, append(manyPoints(impl.MaxPoints-1, 97), p))
	}
	// A pair of halves is no point either: the pairing belongs to CodeUtf16, not to points.
	lists = append(lists, []int{55296, 56320}, []int{56320, 55296})
	for _, l := range lists {
		if impl.GoodPoints(l) {
			t.Error("GoodPoints takes", l)
		}
		for _, code := range []int{1, 2, 3, 0, 4} {
			if s, ok := impl.EncodePoints(l, code); s != "" || ok {
				t.Errorf("EncodePoints(%v, %d) = %x, %t", l, code, s, ok)
			}
			if n, ok := impl.SizeAs(l, code); n != 0 || ok {
				t.Errorf("SizeAs(%v, %d) = %d, %t", l, code, n, ok)
			}
		}
		if s, wide, ok := impl.CompactBytes(l); s != "" || wide || ok {
			t.Errorf("CompactBytes(%v) = %x, %t, %t", l, s, wide, ok)
		}
	}
}

// Promise 2, wrong inputs: codes other than the three, also of nothing at all.
func TestBadCodes(t *testing.T) {
	for _, code := range []int{0, 4, -1, 5, 1<<32 + 1, 1<<32 + 3, math.MaxInt, math.MinInt} {
		for _, l := range [][]int{nil, {}, {97}, {300}} {
			if s, ok := impl.EncodePoints(l, code); s != "" || ok {
				t.Errorf("EncodePoints(%v, %d) = %x, %t", l, code, s, ok)
			}
			if n, ok := impl.SizeAs(l, code); n != 0 || ok {
				t.Errorf("SizeAs(%v, %d) = %d, %t", l, code, n, ok)
			}
		}
		for _, s := range []string{"", "a", "a\x00"} {
			if l, ok := impl.DecodePoints(s, code); len(l) != 0 || ok {
				t.Errorf("DecodePoints(%x, %d) = %v, %t", s, code, l, ok)
			}
			for _, other := range []int{1, 2, 3, code} {
				if x, ok := impl.Transcode(s, code, other); x != "" || ok {
					t.Errorf("Transcode(%x, %d, %d) = %x, %t", s, code, other, x, ok)
				}
				if x, ok := impl.Transcode(s, other, code); x != "" || ok {
					t.Errorf("Transcode(%x, %d, %d) = %x, %t", s, other, code, x, ok)
				}
			}
		}
	}
}
