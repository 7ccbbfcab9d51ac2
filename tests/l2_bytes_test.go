package tests

import (
	"slices"
	"strings"
	"testing"

	"loop.example/g00209/impl"
)

// refuseText: a text that is none of that code, alone and beside others.
func refuseText(t *testing.T, s string, code int) {
	t.Helper()
	if l, ok := impl.DecodePoints(s, code); len(l) != 0 || ok {
		t.Errorf("DecodePoints(%.40x, %d) = %v, %t", s, code, l, ok)
	}
	for _, to := range threeCodes {
		if x, ok := impl.Transcode(s, code, to); x != "" || ok {
			t.Errorf("Transcode(%.40x, %d, %d) = %x, %t", s, code, to, x, ok)
		}
	}
	if code == impl.CodeUtf8 {
		if n, ok := impl.CountPoints(s); n != 0 || ok {
			t.Errorf("CountPoints(%.40x) = %d, %t", s, n, ok)
		}
	}
	if code == impl.CodeUtf16 {
		if l, ok := impl.CompactPoints(s, true); len(l) != 0 || ok {
			t.Errorf("CompactPoints(%.40x, true) = %v, %t", s, l, ok)
		}
	}
}

// Promise 2, wrong inputs: CodeUtf8 is read in its shortest form alone.
func TestBadUtf8(t *testing.T) {
	for _, s := range []string{
		"\xc0\x80", "\xc0\xaf", "\xc1\xbf", // 0, 47 and 127 in two bytes
		"\xe0\x80\x80", "\xe0\x9f\xbf", // 0 and 2047 in three
		"\xf0\x80\x80\x80", "\xf0\x8f\xbf\xbf", // 0 and 65535 in four
		"\xed\xa0\x80", "\xed\xaf\xbf", "\xed\xb0\x80", "\xed\xbf\xbf", // halves
		"\xed\xa0\x80\xed\xb0\x80",                                                         // a pair of them
		"\xf4\x90\x80\x80", "\xf5\x80\x80\x80", "\xf7\xbf\xbf\xbf", "\xf8\x88\x80\x80\x80", // beyond the last point
		"\xc3", "\xe2", "\xe2\x82", "\xf0", "\xf0\x9f", "\xf0\x9f\x98", // bytes lack
		"\xc3\xc3", "\xe2\x82a", "\xf0\x9f\x98\xc0", "\xc3\x28",
		"\x80", "\xbf", "\xc3\xa4\xa4", "\xfe", "\xff", // bytes alone
	} {
		for _, x := range []string{s, "a" + s, s + "a", "\xc3\xa4" + s + "\xe2\x82\xac"} {
			refuseText(t, x, impl.CodeUtf8)
		}
	}
}

// Promise 2: half of a pair is none.
func TestBadUtf16(t *testing.T) {
	const up, low = "\x3d\xd8", "\x00\xde"
	for _, s := range []string{
		up, low, low + up, up + up, low + low, up + "a\x00", "a\x00" + low,
		up + up + low, up + low + low, up + low + up, low + up + low,
		"\x00\xd8", "\xff\xdb", "\x00\xdc", "\xff\xdf", // the first and the last of both
		"\xff\xdb\xff\xdb", "\x00\xdc\x00\xdc", "\x00\xd8\x00\xe0", "\xff\xd7\x00\xdc",
	} {
		for _, x := range []string{s, "a\x00" + s, s + "a\x00", "\xac\x20" + s + "\xac\x20"} {
			refuseText(t, x, impl.CodeUtf16)
		}
	}
	for _, s := range []string{"a", "a\x00b", up + "\x00", "\x00" + up + low, up + low + "\xd8"} {
		refuseText(t, s, impl.CodeUtf16)
	}
}

// MaxPoints may be met exactly, in every code and whatever bytes the points take; one more is too many.
func TestTextsOfMaxPoints(t *testing.T) {
	for _, p := range edgePoints {
		for _, code := range threeCodes {
			full, ok := wantPoints(manyPoints(impl.MaxPoints, p), code)
			if !ok {
				continue
			}
			if l, ok := impl.DecodePoints(full, code); !slices.Equal(l, manyPoints(impl.MaxPoints, p)) || !ok {
				t.Errorf("%d in code %d: %d points, %t", p, code, len(l), ok)
			}
			refuseText(t, full+wantPoint(p, code), code)
			refuseText(t, full+wantPoint(97, code), code)
			refuseText(t, strings.Repeat(full, 50), code)
		}
	}
	for _, s := range []string{text(impl.MaxPoints + 1), text(100000)} {
		if l, ok := impl.CompactPoints(s, false); len(l) != 0 || ok {
			t.Errorf("CompactPoints takes %d bytes", len(s))
		}
	}
}

// Promise 2: CodeLatin has a point for every byte, and none for others.
func TestLatin(t *testing.T) {
	for b := range 256 {
		s := string([]byte{byte(b), 'a'})
		if l, ok := impl.DecodePoints(s, impl.CodeLatin); !slices.Equal(l, []int{b, 97}) || !ok {
			t.Errorf("%x: %v, %t", s, l, ok)
		}
		if l, ok := impl.CompactPoints(s, false); !slices.Equal(l, []int{b, 97}) || !ok {
			t.Errorf("compact %x: %v, %t", s, l, ok)
		}
	}
	for _, s := range []string{"\xc4\x80", "a\xe2\x82\xac", "\xf0\x9f\x98\x80"} {
		if x, ok := impl.Transcode(s, impl.CodeUtf8, impl.CodeLatin); x != "" || ok {
			t.Errorf("Transcode(%x) = %x, %t", s, x, ok)
		}
	}
}

// CompactBytes tells no wide text of points below 256, so that there are no points of one.
func TestWideWithoutNeed(t *testing.T) {
	for _, l := range [][]int{nil, {97}, {97, 255}, {0}, manyPoints(impl.MaxPoints, 255)} {
		s, _ := wantPoints(l, impl.CodeUtf16)
		if x, ok := impl.CompactPoints(s, true); len(x) != 0 || ok {
			t.Errorf("CompactPoints(%x, true) = %v, %t", s, x, ok)
		}
	}
	for _, l := range [][]int{{256}, {97, 256}, {256, 97}, append(manyPoints(impl.MaxPoints-1, 97), 256)} {
		s, _ := wantPoints(l, impl.CodeUtf16)
		if x, ok := impl.CompactPoints(s, true); !slices.Equal(x, l) || !ok {
			t.Errorf("CompactPoints(%x, true) = %v, %t", s, x, ok)
		}
	}
}
