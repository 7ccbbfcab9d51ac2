package tests

import (
	codes "encoding/binary"
	"math/rand"
	"slices"
	"strings"
	"testing"

	"loop.example/g00209/impl"
)

// readIns: the instruction at the front and how many bytes it has, by the table of forms.
func readIns(s string) (impl.Ins, int) {
	f, ok := formOf(int(s[0]))
	if !ok {
		return impl.Ins{}, 0
	}
	a, n, rest := 0, 0, s[1:]
	switch f.bytes {
	case "":
		return impl.Ins{Op: int(s[0])}, 1
	case "byte":
		if len(rest) > 0 {
			a, n = int(rest[0]), 1
		}
	case "four":
		if len(rest) > 3 {
			a, n = int(codes.LittleEndian.Uint32([]byte(rest))), 4
		}
	case "uleb":
		x, took := wantUleb(rest, 32)
		a, n = int(x), took
	case "sleb":
		bits := 32
		if s[0] == 66 {
			bits = 64
		}
		a, n = wantSleb(rest, bits)
	}
	if n == 0 || !f.may(a) {
		return impl.Ins{}, 0
	}
	return impl.Ins{Op: int(s[0]), A: a}, n + 1
}

func readAll(s string) ([]impl.Ins, bool) {
	var l []impl.Ins
	for s != "" {
		x, n := readIns(s)
		if n == 0 {
			return nil, false
		}
		l = append(l, x)
		s = s[n:]
	}
	if len(l) > impl.MaxBody {
		return nil, false
	}
	return l, true
}

func checkRead(t *testing.T, s string) {
	t.Helper()
	want, wantOk := readAll(s)
	if l, ok := impl.ReadCode(s); !slices.Equal(l, want) || ok != wantOk {
		t.Fatalf("ReadCode(%x) = %v, %t, want %v, %t", s, l, ok, want, wantOk)
	}
}

// Promise 6: all texts of at most two bytes, and all three behind the ops that have an A.
func TestShortCodeRead(t *testing.T) {
	checkRead(t, "")
	for a := range 256 {
		checkRead(t, string([]byte{byte(a)}))
		for b := range 256 {
			checkRead(t, string([]byte{byte(a), byte(b)}))
		}
	}
	for _, f := range insForms()[1:] {
		for _, op := range f.ops {
			for a := range 256 {
				for b := range 256 {
					checkRead(t, string([]byte{byte(op), byte(a), byte(b)}))
				}
			}
		}
	}
}

// Promise 6: bytes that end early are refused, wherever they end but between two instructions.
func TestCodeThatEndsEarly(t *testing.T) {
	r := rand.New(rand.NewSource(62))
	for range 300 {
		l := anyCode(r, 20)
		s := wantCode(l)
		whole := map[int]int{0: 0}
		for i := range l {
			whole[len(wantCode(l[:i+1]))] = i + 1
		}
		for n := range len(s) + 1 {
			count, ok := whole[n]
			back, told := impl.ReadCode(s[:n])
			if told != ok || !slices.Equal(back, l[:count]) {
				t.Fatalf("%d bytes of %x: %v, %t", n, s, back, told)
			}
		}
	}
}

// Numbers may have more bytes than they need, as chapter 1 takes them; beyond that and beyond their bits they are refused.
func TestCodeLongNumbers(t *testing.T) {
	for s, x := range map[string]impl.Ins{
		"\x0c\x80\x00":                                 {Op: impl.InBr},
		"\x10\xe8\x87\x80\x80\x00":                     {Op: impl.InCall, A: 1000},
		"\x28\x90\xce\x80\x80\x00":                     {Op: impl.InLoad32, A: 10000},
		"\x41\xff\x7f":                                 {Op: impl.InConst32, A: -1},
		"\x41\xff\xff\xff\xff\x7f":                     {Op: impl.InConst32, A: -1},
		"\x41\x80\x80\x80\x80\x00":                     {Op: impl.InConst32},
		"\x42\xff\xff\xff\xff\xff\xff\xff\xff\xff\x7f": {Op: impl.InConst64, A: -1},
		"\x42\x85\x80\x80\x80\x80\x80\x80\x80\x80\x00": {Op: impl.InConst64, A: 5},
		"\x42\x80\x80\x80\x80\x80\x80\x00":             {Op: impl.InConst64},
		"\x42\x80\x80\x80\x80\x10":                     {Op: impl.InConst64, A: 1 << 32},
		"\x42\x80\x80\x80\x80\x08":                     {Op: impl.InConst64, A: 1 << 31},
		"\x43\x00\x00\x00\x00":                         {Op: impl.InConstF},
		"\x04\x40":                                     {Op: impl.InIf, A: impl.TypeNone},
	} {
		if l, ok := impl.ReadCode(s + "\x0b"); !slices.Equal(l, []impl.Ins{x, {Op: impl.InEnd}}) || !ok {
			t.Errorf("ReadCode(%x) = %v, %t", s, l, ok)
		}
	}
}

func TestCodeWrongBytes(t *testing.T) {
	for _, s := range []string{
		"\x02",                         // a block without its type
		"\x04",                         // likewise
		"\x02\x00",                     // no type
		"\x03\x7c",                     // one below the types
		"\x04\x80",                     // one above
		"\x02\xc0\x00",                 // a type is a byte, not a number
		"\x02\xff\x00",                 // likewise
		"\x0c",                         // no number
		"\x0c\x80",                     // half a number
		"\x0c\x80\x80\x80\x80\x80\x00", // six bytes
		"\x0c\x80\x80\x80\x80\x10",     // 33 bits
		"\x0c\xff\xff\xff\xff\x0f",     // the greatest number of 32 bits
		"\x20\xe9\x07",                 // 1001
		"\x24\xe9\x87\x00",             // 1001, longer than needed
		"\x28\x91\x4e",                 // 10001
		"\x37\x91\xce\x00",             // likewise
		"\x41",                         // no number
		"\x41\x80\x80\x80\x80",         // half a number
		"\x41\x80\x80\x80\x80\x08",     // 2^31
		"\x41\xff\xff\xff\xff\x77",     // -2^31 - 1
		"\x41\x80\x80\x80\x80\x10",     // a bit beyond 32
		"\x41\xff\xff\xff\xff\x4f",     // the sign, but not all of it
		"\x41\x80\x80\x80\x80\x80\x00", // six bytes
		"\x41\xff\xff\xff\xff\xff\x7f", // likewise
		"\x42\x80\x80\x80\x80\x80\x80\x80\x80\x80\x01",     // 2^63
		"\x42\xff\xff\xff\xff\xff\xff\xff\xff\xff\x7e",     // -2^63 - 1
		"\x42\x80\x80\x80\x80\x80\x80\x80\x80\x80\x80\x00", // eleven bytes
		"\x42\xff\xff\xff\xff\xff\xff\xff\xff\xff",         // half a number
		"\x43",                               // no bytes
		"\x43\x00\x00\x80",                   // three of four
		"\x06",                               // no instruction
		"\x0e",                               // likewise
		"\x60",                               // InI32 itself
		"\x7c",                               // behind the last one of InI32
		"\x80",                               // InI64 itself
		"\x9c",                               // behind the last one of InI64
		"\xa0",                               // InF32 itself
		"\xaa",                               // behind the last one of InF32
		"\xaf",                               // ahead of InWrap
		"\xb5",                               // behind InToInt
		"\xff",                               // far beyond
		strings.Repeat("\x01", 100000),       // far too many
		strings.Repeat("\xff", 100000),       // not one right
		strings.Repeat("\x01", 200) + "\x06", // one too many, and none
	} {
		for _, ahead := range []string{"", "\x01", "\x41\x7f\x0d\x00"} {
			if l, ok := impl.ReadCode(ahead + s); len(l) != 0 || ok {
				t.Errorf("ReadCode(%.20x) = %v, %t", ahead+s, l, ok)
			}
		}
	}
}

// What needs no A has no bytes for it: a byte 0 behind is an instruction of its own.
func TestCodeWithoutNumbers(t *testing.T) {
	for _, op := range insForms()[0].ops {
		s := string([]byte{byte(op), 0})
		if l, ok := impl.ReadCode(s); !slices.Equal(l, []impl.Ins{{Op: op}, {Op: impl.InUnreachable}}) || !ok {
			t.Errorf("ReadCode(%x) = %v, %t", s, l, ok)
		}
	}
}

// Promise 6: any bytes, many of them right but for one, held against the table of forms.
func TestAnyCodeRead(t *testing.T) {
	r := rand.New(rand.NewSource(63))
	for range 60000 {
		s := []byte(wantCode(anyCode(r, 12)))
		for range r.Intn(3) {
			if len(s) > 0 {
				s[r.Intn(len(s))] = byte(r.Intn(256)) >> r.Intn(2) << r.Intn(2)
			}
		}
		if r.Intn(2) == 0 && len(s) > 0 {
			at := r.Intn(len(s))
			s = slices.Insert(s, at, []byte{0x80, 0xff, 0x00, 0x7f}[r.Intn(4)])
		}
		checkRead(t, string(s))
	}
}
