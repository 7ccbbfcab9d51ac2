package tests

import (
	"math"
	"math/rand"
	"slices"
	"strings"
	"testing"
	"unicode/utf16"
	"unicode/utf8"

	"loop.example/g00209/impl"
)

// callText calls every function of chapter 2 with what it is given, and fails where one answers something
// beside a false, or more than there can be.
func callText(t *testing.T, s string, l []int, code int, other int) {
	t.Helper()
	defer func() {
		if r := recover(); r != nil {
			t.Fatalf("panic at %.40x, %.40v, %d, %d: %v", s, l, code, other, r)
		}
	}()
	good := impl.GoodPoints(l)
	x, ok := impl.EncodePoints(l, code)
	if ok && (!good || len(x) > 4*len(l)) || !ok && x != "" {
		t.Fatalf("EncodePoints(%v, %d) = %x, %t", l, code, x, ok)
	}
	if n, sized := impl.SizeAs(l, code); n != len(x) || sized != ok {
		t.Fatalf("SizeAs(%v, %d) = %d, %t", l, code, n, sized)
	}
	if x, ok := impl.DecodePoints(s, code); !impl.GoodPoints(x) || !ok && len(x) != 0 {
		t.Fatalf("DecodePoints(%x, %d) = %v, %t", s, code, x, ok)
	}
	if x, ok := impl.Transcode(s, code, other); len(x) > 4*len(s) || !ok && x != "" {
		t.Fatalf("Transcode(%x, %d, %d) = %x, %t", s, code, other, x, ok)
	}
	if x, wide, ok := impl.CompactBytes(l); ok != good || !ok && (x != "" || wide) {
		t.Fatalf("CompactBytes(%v) = %x, %t, %t", l, x, wide, ok)
	}
	for _, wide := range []bool{false, true} {
		if x, ok := impl.CompactPoints(s, wide); !impl.GoodPoints(x) || !ok && len(x) != 0 {
			t.Fatalf("CompactPoints(%x, %t) = %v, %t", s, wide, x, ok)
		}
	}
	points, decoded := impl.DecodePoints(s, impl.CodeUtf8)
	if n, ok := impl.CountPoints(s); n != len(points) || ok != decoded {
		t.Fatalf("CountPoints(%x) = %d, %t", s, n, ok)
	}
}

// Promise 19: every function answers at any arguments.
func TestTextAnswersAtAnything(t *testing.T) {
	codes := []int{0, 1, 2, 3, 4, -1, math.MaxInt, math.MinInt}
	texts := []string{"", "\x00", "a", "\x80", "\xff", "\xff\xff", "\x00\xd8", text(300), text(301), text(1200), text(1201),
		strings.Repeat("\xf0\x9f\x98\x80", 301), strings.Repeat("\x00\xd8\x00\xdc", 300), strings.Repeat("\x00\xd8", 300), strings.Repeat("\x00", 1000000)}
	lists := [][]int{nil, {}, {0}, {-1}, {math.MaxInt}, {math.MinInt}, {55296}, {97, 1114112}, manyPoints(300, 65536), manyPoints(301, 0), make([]int, 100000)}
	for _, s := range texts {
		for _, l := range lists {
			for _, code := range codes {
				for _, other := range codes {
					callText(t, s, l, code, other)
				}
			}
		}
	}
	r := rand.New(rand.NewSource(2))
	for range 20000 {
		callText(t, anyText(r), anyPoints(r), r.Intn(6)-1, r.Intn(6)-1)
	}
}

// anyText: bytes of which many are at the front of a form, behind one, or a half.
func anyText(r *rand.Rand) string {
	likely := []byte{0, 'a', 0x7f, 0x80, 0x8f, 0x90, 0x9f, 0xa0, 0xbf, 0xc0, 0xc2, 0xd8, 0xdb, 0xdc, 0xdf, 0xe0, 0xed, 0xef, 0xf0, 0xf4, 0xf5, 0xff}
	s := make([]byte, r.Intn(12))
	for i := range s {
		s[i] = likely[r.Intn(len(likely))]
		if r.Intn(4) == 0 {
			s[i] = byte(r.Intn(256))
		}
	}
	return string(s)
}

func anyPoints(r *rand.Rand) []int {
	var l []int
	for range r.Intn(6) {
		l = append(l, r.Intn(1<<21)>>r.Intn(20)-r.Intn(2))
	}
	return l
}

// Promise 2: what any bytes decode to, held against the library's own readers.
func TestAnyBytesDecoded(t *testing.T) {
	r := rand.New(rand.NewSource(3))
	for range 200000 {
		s := anyText(r)
		var want []int
		for _, x := range s {
			want = append(want, int(x))
		}
		wantDecoded(t, s, impl.CodeUtf8, want, utf8.ValidString(s))
		want = nil
		units := make([]uint16, len(s)/2)
		for i := range units {
			units[i] = uint16(s[2*i]) | uint16(s[2*i+1])<<8
		}
		for _, x := range utf16.Decode(units) {
			want = append(want, int(x))
		}
		back := utf16.Encode(utf16.Decode(units))
		wantDecoded(t, s, impl.CodeUtf16, want, len(s)%2 == 0 && slices.Equal(back, units))
	}
}

func wantDecoded(t *testing.T, s string, code int, want []int, wantOk bool) {
	t.Helper()
	if !wantOk {
		want = nil
	}
	if l, ok := impl.DecodePoints(s, code); !slices.Equal(l, want) || ok != wantOk {
		t.Fatalf("DecodePoints(%x, %d) = %v, %t, want %v, %t", s, code, l, ok, want, wantOk)
	}
}

// Promise 19: nothing is written into an argument, nor is what lies behind a list's length read or written.
func TestTextLeavesArguments(t *testing.T) {
	for _, p := range []int{98, 300, 128512, -1} {
		all := []int{97, p, 55296, math.MaxInt}
		kept := slices.Clone(all)
		l := all[:2]
		for code := range 5 {
			want, has := "", p >= 0 && code >= 1 && code <= 3
			if has {
				want, has = wantPoints(l, code)
			}
			if s, ok := impl.EncodePoints(l, code); s != want || ok != has {
				t.Errorf("EncodePoints(%v, %d) = %x, %t, want %x, %t", l, code, s, ok, want, has)
			}
			impl.SizeAs(l, code)
		}
		if impl.GoodPoints(l) != (p >= 0) {
			t.Error("GoodPoints of", l)
		}
		if _, _, ok := impl.CompactBytes(l); ok != (p >= 0) {
			t.Error("CompactBytes of", l)
		}
		if !slices.Equal(all, kept) {
			t.Error("argument changed:", all)
		}
	}
}

// Promise 19: an answer is new memory, and the same call answers the same again.
func TestTextAnswersAreNew(t *testing.T) {
	for code, s := range []string{impl.CodeUtf8: "abc", impl.CodeUtf16: "a\x00b\x00c\x00", impl.CodeLatin: "abc"} {
		if code == 0 {
			continue
		}
		first, _ := impl.DecodePoints(s, code)
		clear(first)
		if l, ok := impl.DecodePoints(s, code); !slices.Equal(l, []int{97, 98, 99}) || !ok {
			t.Errorf("code %d: %v, %t", code, l, ok)
		}
		if x, ok := impl.Transcode(s, code, code); x != s || !ok || sharesBytes(s, x) {
			t.Errorf("code %d: the text lies in the argument", code)
		}
	}
	first, _ := impl.CompactPoints("abc", false)
	clear(first)
	if l, ok := impl.CompactPoints("abc", false); !slices.Equal(l, []int{97, 98, 99}) || !ok {
		t.Error(l, ok)
	}
}
