package tests

import (
	"slices"
	"strings"
	"testing"

	"loop.example/g00209/impl"
)

func text(n int) string {
	return strings.Repeat("x", n)
}

// sectionsFrom: n sections with rising Ids from first on, each with that Body.
func sectionsFrom(first int, n int, body string) []impl.Section {
	var l []impl.Section
	for i := range n {
		l = append(l, impl.Section{Id: first + i, Body: body})
	}
	return l
}

// wantSections: the bytes of sections, one after the other, whatever they are.
func wantSections(l []impl.Section) string {
	s := ""
	for _, x := range l {
		s += string([]byte{byte(x.Id)}) + impl.UlebBytes(uint64(len(x.Body))) + x.Body
	}
	return s
}

// Promise 1: sections come back from their bytes.
func TestSectionsComeBack(t *testing.T) {
	full := append(sectionsFrom(1, 3, text(1000)), impl.Section{Id: 4, Body: text(988)})
	if n := len(wantSections(full)); n != impl.MaxBytes {
		t.Fatal("meant to meet MaxBytes exactly:", n)
	}
	for _, l := range [][]impl.Section{
		nil,
		{},
		{{Id: 0}},
		{{Id: 20}},
		{{Id: 0, Body: "\x00"}, {Id: 20, Body: "\xff\x80"}},
		{{Id: 1, Body: "ab"}, {Id: 3}},
		{{Id: 5, Body: text(127)}, {Id: 6, Body: text(128)}},
		{{Id: 7, Body: text(1000)}},
		sectionsFrom(0, impl.MaxSections, ""),
		sectionsFrom(1, impl.MaxSections, text(198)),
		sectionsFrom(0, impl.MaxSections, text(197)),
		full,
	} {
		want := wantSections(l)
		fits := len(want) <= impl.MaxBytes
		if !fits {
			want = ""
		}
		s, ok := impl.SectionsBytes(l)
		if s != want || ok != fits {
			t.Errorf("SectionsBytes of %d sections: %x, %t, want %x, %t", len(l), s, ok, want, fits)
		}
		if !fits {
			continue
		}
		back, ok := impl.ReadSections(s)
		if !slices.Equal(back, l) || !ok {
			t.Errorf("ReadSections(%x) = %v, %t", s, back, ok)
		}
	}
}

// Each limit gone beyond by one, Ids that do not rise: refused both as sections and as bytes.
func TestSectionsRefused(t *testing.T) {
	for why, l := range map[string][]impl.Section{
		"too many":         sectionsFrom(0, impl.MaxSections+1, ""),
		"Id above":         {{Id: 21}},
		"Id far above":     {{Id: 255}},
		"Id above last":    {{Id: 20}, {Id: 21}},
		"same Id":          {{Id: 3, Body: "a"}, {Id: 3, Body: "b"}},
		"falling":          {{Id: 3}, {Id: 2}},
		"same noughts":     {{Id: 0}, {Id: 0}},
		"falling later":    {{Id: 1}, {Id: 5}, {Id: 4}},
		"Body too long":    {{Id: 1, Body: text(1001)}},
		"Body behind":      {{Id: 1}, {Id: 2, Body: text(1001)}},
		"bytes beyond":     append(sectionsFrom(1, 3, text(1000)), impl.Section{Id: 4, Body: text(989)}),
		"bytes far beyond": sectionsFrom(0, 20, text(1000)),
	} {
		if s, ok := impl.SectionsBytes(l); s != "" || ok {
			t.Errorf("%s: SectionsBytes = %x, %t", why, s, ok)
		}
		if back, ok := impl.ReadSections(wantSections(l)); len(back) != 0 || ok {
			t.Errorf("%s: ReadSections = %v, %t", why, back, ok)
		}
	}
	for _, id := range []int{-1, -256, 256, 257, 1 << 40, -1 << 63} {
		if s, ok := impl.SectionsBytes([]impl.Section{{Id: id}}); s != "" || ok {
			t.Errorf("Id %d: %x, %t", id, s, ok)
		}
	}
}

func TestReadSectionsWrongBytes(t *testing.T) {
	for _, s := range []string{
		"\x01",                                // no length
		"\x01\x80",                            // half a length
		"\x01\x01",                            // no body
		"\x01\x03ab",                          // a body that is cut
		"\x01\x02ab\x03",                      // a second one without length
		"\x01\x02ab\x03\x05abcd",              // a second one that is cut
		"\x01\x80\x80\x80\x80\x80\x00",        // a length of six bytes
		"\x01\xff\xff\xff\xff\x0f",            // the greatest length
		"\x01\xff\xff\xff\xff\x1fab",          // a length of more than 32 bits
		"\x01\x82\x80\x80\x80\x10ab",          // one that would fit but for a bit beyond 32
		"\x80\x00\x00",                        // an Id is a byte, not a number
		"\x81\x00",                            // neither of these either
		text(impl.MaxBytes),                   // no sections at all
		strings.Repeat("\x00", 4000),          // many with the same Id
		strings.Repeat("\xff", 5000),          // too long, and nothing in it right
		"\x01\xe9\x07" + text(1001),           // a body of 1001
		"\x01\xe8\x07" + text(999),            // a body of 1000 that lacks a byte
		wantSections(sectionsFrom(0, 21, "")), // one section more than may be
	} {
		if l, ok := impl.ReadSections(s); len(l) != 0 || ok {
			t.Errorf("ReadSections(%.20x) = %v, %t", s, l, ok)
		}
	}
}

// Lengths are numbers as TakeUleb takes them: they may be longer than needed, up to five bytes.
func TestReadSectionsLongLengths(t *testing.T) {
	for _, s := range []string{"\x01\x82\x00ab\x03\x80\x80\x00", "\x01\x82\x80\x80\x80\x00ab\x03\x80\x80\x80\x80\x00"} {
		l, ok := impl.ReadSections(s)
		if !slices.Equal(l, []impl.Section{{Id: 1, Body: "ab"}, {Id: 3}}) || !ok {
			t.Errorf("ReadSections(%x) = %v, %t", s, l, ok)
		}
	}
	atLimit := append(sectionsFrom(1, 3, text(1000)), impl.Section{Id: 4, Body: text(987)})
	s := wantSections(atLimit[:3]) + "\x04\xdb\x87\x00" + text(987)
	if l, ok := impl.ReadSections(s); len(s) != impl.MaxBytes || !slices.Equal(l, atLimit) || !ok {
		t.Error("bytes met exactly", len(s), len(l), ok)
	}
	s = wantSections(atLimit[:3]) + "\x04\xdb\x87\x80\x00" + text(987)
	if l, ok := impl.ReadSections(s); len(s) != impl.MaxBytes+1 || len(l) != 0 || ok {
		t.Error("bytes gone beyond by one", len(s), len(l), ok)
	}
}

// Promise 1: names come back from their bytes, whatever stands behind.
func TestNamesComeBack(t *testing.T) {
	for n := range 101 {
		for _, name := range []string{text(n), strings.Repeat("\xff", n), strings.Repeat("\x00", n)} {
			s, ok := impl.NameBytes(name)
			if s != string([]byte{byte(n)})+name || !ok {
				t.Fatalf("NameBytes of %d bytes: %x, %t", n, s, ok)
			}
			for _, behind := range []string{"", "\x00", "rest", "\xff\xff"} {
				back, took, ok := impl.TakeName(s + behind)
				if back != name || took != n+1 || !ok {
					t.Fatalf("TakeName(%x) = %x, %d, %t", s+behind, back, took, ok)
				}
			}
		}
	}
}

func TestNamesWrong(t *testing.T) {
	for _, n := range []int{101, 127, 128, 4000} {
		if s, ok := impl.NameBytes(text(n)); s != "" || ok {
			t.Errorf("NameBytes of %d bytes: %x, %t", n, s, ok)
		}
	}
	for _, s := range []string{
		"",                               // no length
		"\x80",                           // half a length
		"\x01",                           // no byte
		"\x05abcd",                       // one byte lacks
		"\x64" + text(99),                // one byte of 100 lacks
		"\x65" + text(101),               // one byte too many
		"\x80\x01" + text(128),           // far too many
		"\xff\xff\xff\xff\x0f" + "a",     // the greatest length
		"\x81\x80\x80\x80\x10" + "a",     // more than 32 bits
		"\x81\x80\x80\x80\x80\x00" + "a", // six bytes
	} {
		if name, took, ok := impl.TakeName(s); name != "" || took != 0 || ok {
			t.Errorf("TakeName(%.20x) = %x, %d, %t", s, name, took, ok)
		}
	}
}

// The length of a name is taken as that of a section is: it may be longer than needed.
func TestNamesLongLengths(t *testing.T) {
	if name, took, ok := impl.TakeName("\x82\x00abc"); name != "ab" || took != 4 || !ok {
		t.Error(name, took, ok)
	}
	if name, took, ok := impl.TakeName("\xe4\x80\x80\x80\x00" + text(101)); name != text(100) || took != 105 || !ok {
		t.Error(name, took, ok)
	}
}
