package tests

import (
	codes "encoding/binary"
	"math"
	"math/big"
	"math/rand"
	"slices"
	"strings"
	"testing"

	"loop.example/g00209/impl"
)

// insForm: what the document says of A and its bytes, for all ops that are alike.
type insForm struct {
	ops   []int
	least int
	most  int
	bytes string // "", "byte", "uleb", "sleb" or "four"
}

// insForms: all instructions, by the numbers that the document tells. Of blocks least and most are not used.
func insForms() []insForm {
	bare := []int{0, 1, 5, 11, 15, 26, 27, 63, 64, 176, 177, 178, 179, 180}
	for k := 1; k <= 27; k++ {
		bare = append(bare, 96+k, 128+k)
	}
	for k := 1; k <= 9; k++ {
		bare = append(bare, 160+k)
	}
	return []insForm{
		{bare, 0, 0, ""},
		{[]int{2, 3, 4}, 0, 0, "byte"},
		{[]int{12, 13, 16, 32, 33, 34, 35, 36}, 0, 1000, "uleb"},
		{[]int{40, 41, 54, 55}, 0, 10000, "uleb"},
		{[]int{65}, -2147483648, 2147483647, "sleb"},
		{[]int{66}, math.MinInt, math.MaxInt, "sleb"},
		{[]int{67}, 0, 4294967295, "four"},
	}
}

var formsByOp = func() map[int]insForm {
	l := map[int]insForm{}
	for _, f := range insForms() {
		for _, op := range f.ops {
			l[op] = f
		}
	}
	return l
}()

func formOf(op int) (insForm, bool) {
	f, ok := formsByOp[op]
	return f, ok
}

func (f insForm) may(a int) bool {
	if f.bytes == "byte" {
		return a == 127 || a == 126 || a == 125 || a == 64
	}
	return f.least <= a && a <= f.most
}

func wantGoodIns(x impl.Ins) bool {
	f, ok := formOf(x.Op)
	return ok && f.may(x.A)
}

// slebOf: the groups of seven bits of a number of any size, as many as hold it with its sign.
func slebOf(n int) []byte {
	size := 1
	for big.NewInt(int64(n)).Cmp(power(7*size-1)) >= 0 || big.NewInt(int64(n)).Cmp(new(big.Int).Neg(power(7*size-1))) < 0 {
		size++
	}
	x := new(big.Int).Mod(big.NewInt(int64(n)), power(7*size))
	b := make([]byte, size)
	for i := range b {
		b[i] = byte(new(big.Int).Rsh(x, uint(7*i)).Uint64()) & 127
		if i < size-1 {
			b[i] |= 128
		}
	}
	return b
}

// wantBytes: the bytes of an instruction, also of one that is not good, as far as its op has a form.
func wantBytes(x impl.Ins) []byte {
	b := []byte{byte(x.Op)}
	f, _ := formOf(x.Op)
	switch f.bytes {
	case "byte":
		return append(b, byte(x.A))
	case "uleb":
		return codes.AppendUvarint(b, uint64(x.A))
	case "sleb":
		return append(b, slebOf(x.A)...)
	case "four":
		return codes.LittleEndian.AppendUint32(b, uint32(x.A))
	}
	return b
}

func wantCode(l []impl.Ins) string {
	var b []byte
	for _, x := range l {
		b = append(b, wantBytes(x)...)
	}
	return string(b)
}

// edgeA: the ends of what any kind allows, one beyond each, and very great ones.
func edgeA() []int {
	l := []int{0, 1, -1, 63, 64, 65, 124, 125, 126, 127, 128, 255, 256, 999, 1000, 1001, 9999, 10000, 10001, 16383, 16384,
		math.MaxInt32 - 1, math.MaxInt32, math.MaxInt32 + 1, math.MinInt32 + 1, math.MinInt32, math.MinInt32 - 1,
		math.MaxUint32 - 1, math.MaxUint32, math.MaxUint32 + 1, math.MaxInt, math.MinInt, math.MaxInt - 1, math.MinInt + 1, -2, -64, -65,
		1<<32 + 64, 1<<32 + 127, -1<<32 + 64, 1<<40 + 5, 256 + 64, 256 + 127, -128, -129}
	return l
}

// edgeOps: all that a byte can hold, some on each side of them, and very great ones.
func edgeOps() []int {
	l := []int{math.MaxInt, math.MinInt, 1 << 32, 1<<32 + 1, -1 << 32, 1<<63 - 255, math.MinInt + 11, 65536, 4096 + 65, math.MaxInt32, math.MinInt32}
	for op := -300; op < 800; op++ {
		l = append(l, op)
	}
	return l
}

// Promise 6: which instructions there are, and which A each may have; of each by itself whether it has bytes.
func TestInstructionsGood(t *testing.T) {
	for _, op := range edgeOps() {
		for _, a := range edgeA() {
			x := impl.Ins{Op: op, A: a}
			want := wantGoodIns(x)
			if impl.GoodIns(x) != want {
				t.Errorf("GoodIns(%v) = %t", x, !want)
			}
			s, ok := impl.CodeBytes([]impl.Ins{x})
			if ok != want || !want && s != "" || want && s != string(wantBytes(x)) {
				t.Errorf("CodeBytes(%v) = %x, %t", x, s, ok)
			}
		}
	}
}

// The ends of what each kind allows, and one beyond each.
func TestInstructionsAtTheirEdges(t *testing.T) {
	for _, f := range insForms() {
		for _, op := range f.ops {
			for _, a := range []int{f.least, f.most} {
				if f.bytes != "byte" && !impl.GoodIns(impl.Ins{Op: op, A: a}) {
					t.Errorf("%d with %d is good", op, a)
				}
			}
			if f.least != math.MinInt && impl.GoodIns(impl.Ins{Op: op, A: f.least - 1}) {
				t.Errorf("%d with %d is not good", op, f.least-1)
			}
			if f.most != math.MaxInt && impl.GoodIns(impl.Ins{Op: op, A: f.most + 1}) {
				t.Errorf("%d with %d is not good", op, f.most+1)
			}
		}
	}
	for op, want := range map[int]bool{
		impl.InI32: false, impl.InI32 + impl.OpAdd: true, impl.InI32 + impl.OpExtend16: true, impl.InI32 + 28: false,
		impl.InI64: false, impl.InI64 + impl.OpAdd: true, impl.InI64 + impl.OpExtend16: true, impl.InI64 + 28: false,
		impl.InF32: false, impl.InF32 + 1: true, impl.InF32 + 9: true, impl.InF32 + 10: false,
		impl.InWrap - 1: false, impl.InToInt + 1: false,
	} {
		if impl.GoodIns(impl.Ins{Op: op}) != want {
			t.Errorf("op %d: %t", op, !want)
		}
	}
}

// Promise 6: the bytes of each kind of instruction, written out, and the instructions again.
func TestInstructionBytesWrittenOut(t *testing.T) {
	for _, c := range []struct {
		x    impl.Ins
		want string
	}{
		{impl.Ins{Op: impl.InUnreachable}, "\x00"},
		{impl.Ins{Op: impl.InNop}, "\x01"},
		{impl.Ins{Op: impl.InBlock, A: impl.TypeNone}, "\x02\x40"},
		{impl.Ins{Op: impl.InLoop, A: impl.TypeI32}, "\x03\x7f"},
		{impl.Ins{Op: impl.InIf, A: impl.TypeI64}, "\x04\x7e"},
		{impl.Ins{Op: impl.InIf, A: impl.TypeF32}, "\x04\x7d"},
		{impl.Ins{Op: impl.InElse}, "\x05"},
		{impl.Ins{Op: impl.InEnd}, "\x0b"},
		{impl.Ins{Op: impl.InBr, A: 127}, "\x0c\x7f"},
		{impl.Ins{Op: impl.InBrIf, A: 128}, "\x0d\x80\x01"},
		{impl.Ins{Op: impl.InReturn}, "\x0f"},
		{impl.Ins{Op: impl.InCall, A: 1000}, "\x10\xe8\x07"},
		{impl.Ins{Op: impl.InDrop}, "\x1a"},
		{impl.Ins{Op: impl.InSelect}, "\x1b"},
		{impl.Ins{Op: impl.InGet}, "\x20\x00"},
		{impl.Ins{Op: impl.InSet, A: 1}, "\x21\x01"},
		{impl.Ins{Op: impl.InTee, A: 2}, "\x22\x02"},
		{impl.Ins{Op: impl.InGlobalGet, A: 3}, "\x23\x03"},
		{impl.Ins{Op: impl.InGlobalSet, A: 4}, "\x24\x04"},
		{impl.Ins{Op: impl.InLoad32}, "\x28\x00"},
		{impl.Ins{Op: impl.InLoad64, A: 10000}, "\x29\x90\x4e"},
		{impl.Ins{Op: impl.InStore32, A: 300}, "\x36\xac\x02"},
		{impl.Ins{Op: impl.InStore64, A: 64}, "\x37\x40"},
		{impl.Ins{Op: impl.InSize}, "\x3f"},
		{impl.Ins{Op: impl.InGrow}, "\x40"},
		{impl.Ins{Op: impl.InConst32, A: 63}, "\x41\x3f"},
		{impl.Ins{Op: impl.InConst32, A: 64}, "\x41\xc0\x00"},
		{impl.Ins{Op: impl.InConst32, A: -64}, "\x41\x40"},
		{impl.Ins{Op: impl.InConst32, A: math.MaxInt32}, "\x41\xff\xff\xff\xff\x07"},
		{impl.Ins{Op: impl.InConst32, A: math.MinInt32}, "\x41\x80\x80\x80\x80\x78"},
		{impl.Ins{Op: impl.InConst64, A: -123456}, "\x42\xc0\xbb\x78"},
		{impl.Ins{Op: impl.InConst64, A: math.MaxInt}, "\x42\xff\xff\xff\xff\xff\xff\xff\xff\xff\x00"},
		{impl.Ins{Op: impl.InConst64, A: math.MinInt}, "\x42\x80\x80\x80\x80\x80\x80\x80\x80\x80\x7f"},
		{impl.Ins{Op: impl.InConstF, A: 0x3f800000}, "\x43\x00\x00\x80\x3f"},
		{impl.Ins{Op: impl.InConstF, A: math.MaxUint32}, "\x43\xff\xff\xff\xff"},
		{impl.Ins{Op: impl.InI32 + impl.OpAdd}, "\x61"},
		{impl.Ins{Op: impl.InI32 + impl.OpExtend16}, "\x7b"},
		{impl.Ins{Op: impl.InI64 + impl.OpAdd}, "\x81"},
		{impl.Ins{Op: impl.InI64 + impl.OpExtend16}, "\x9b"},
		{impl.Ins{Op: impl.InF32 + 1}, "\xa1"},
		{impl.Ins{Op: impl.InF32 + 9}, "\xa9"},
		{impl.Ins{Op: impl.InWrap}, "\xb0"},
		{impl.Ins{Op: impl.InExtendS}, "\xb1"},
		{impl.Ins{Op: impl.InExtendU}, "\xb2"},
		{impl.Ins{Op: impl.InToFloat}, "\xb3"},
		{impl.Ins{Op: impl.InToInt}, "\xb4"},
	} {
		if s, ok := impl.CodeBytes([]impl.Ins{c.x}); s != c.want || !ok {
			t.Errorf("CodeBytes(%v) = %x, %t, want %x", c.x, s, ok, c.want)
		}
		if l, ok := impl.ReadCode(c.want); !slices.Equal(l, []impl.Ins{c.x}) || !ok {
			t.Errorf("ReadCode(%x) = %v, %t, want %v", c.want, l, ok, c.x)
		}
	}
}

// anyIns: a good one.
func anyIns(r *rand.Rand) impl.Ins {
	forms := insForms()
	f := forms[r.Intn(len(forms))]
	x := impl.Ins{Op: f.ops[r.Intn(len(f.ops))]}
	switch {
	case f.bytes == "byte":
		x.A = []int{64, 125, 126, 127}[r.Intn(4)]
	case f.most == math.MaxInt:
		x.A = int(anyWord(r))
	default:
		x.A = f.least + r.Intn(f.most-f.least+1)>>r.Intn(20)
	}
	return x
}

func anyCode(r *rand.Rand, most int) []impl.Ins {
	var l []impl.Ins
	for range r.Intn(most + 1) {
		l = append(l, anyIns(r))
	}
	return l
}

// checkCode: these good instructions have the bytes that are wanted, and come back from them.
func checkCode(t *testing.T, l []impl.Ins) {
	t.Helper()
	want := wantCode(l)
	if s, ok := impl.CodeBytes(l); s != want || !ok {
		t.Fatalf("CodeBytes(%v) = %x, %t, want %x", l, s, ok, want)
	}
	if back, ok := impl.ReadCode(want); !slices.Equal(back, l) || !ok {
		t.Fatalf("ReadCode(%x) = %v, %t, want %v", want, back, ok, l)
	}
}

// Promise 6: code comes back from its bytes: every op with every A at an edge, and any code; no code too.
func TestCodeComesBack(t *testing.T) {
	checkCode(t, nil)
	checkCode(t, []impl.Ins{})
	var all []impl.Ins
	for _, op := range edgeOps() {
		for _, a := range edgeA() {
			if x := (impl.Ins{Op: op, A: a}); wantGoodIns(x) {
				all = append(all, x)
			}
		}
	}
	for len(all) > 0 {
		n := min(len(all), impl.MaxBody)
		checkCode(t, all[:n])
		all = all[n:]
	}
	r := rand.New(rand.NewSource(61))
	for range 3000 {
		checkCode(t, anyCode(r, 40))
	}
}

// MaxBody may be met exactly, by instructions of one byte and by those of most bytes, and not gone beyond.
func TestCodeAtItsLimit(t *testing.T) {
	for _, x := range []impl.Ins{{Op: impl.InNop}, {Op: impl.InEnd}, {Op: impl.InConst64, A: math.MinInt}, {Op: impl.InConstF, A: 7}} {
		checkCode(t, slices.Repeat([]impl.Ins{x}, impl.MaxBody))
		more := slices.Repeat([]impl.Ins{x}, impl.MaxBody+1)
		if s, ok := impl.CodeBytes(more); s != "" || ok {
			t.Errorf("CodeBytes of %d: %x, %t", len(more), s, ok)
		}
		if l, ok := impl.ReadCode(wantCode(more)); len(l) != 0 || ok {
			t.Errorf("ReadCode of %d: %v, %t", len(more), l, ok)
		}
	}
	long := strings.Repeat("\x0c\x80\x80\x80\x80\x00", impl.MaxBody)
	if l, ok := impl.ReadCode(long); !slices.Equal(l, slices.Repeat([]impl.Ins{{Op: impl.InBr}}, impl.MaxBody)) || !ok {
		t.Error("numbers of five bytes:", l, ok)
	}
}

// One instruction that is none, or whose A is none of its kind, anywhere in the code, and all of it is refused.
func TestCodeRefused(t *testing.T) {
	for _, bad := range []impl.Ins{
		{Op: 6}, {Op: 10}, {Op: 14}, {Op: 17}, {Op: 28}, {Op: 96}, {Op: 124}, {Op: 128}, {Op: 156}, {Op: 160}, {Op: 170}, {Op: 181}, {Op: 255},
		{Op: -1}, {Op: 256}, {Op: 257}, {Op: 256 + impl.InEnd}, {Op: math.MaxInt}, {Op: math.MinInt},
		{Op: impl.InNop, A: 1}, {Op: impl.InEnd, A: -1}, {Op: impl.InElse, A: 64}, {Op: impl.InI32 + 1, A: 1}, {Op: impl.InSize, A: 1}, {Op: impl.InGrow, A: -1},
		{Op: impl.InBlock}, {Op: impl.InLoop, A: 124}, {Op: impl.InIf, A: 128}, {Op: impl.InBlock, A: 320}, {Op: impl.InIf, A: -64},
		{Op: impl.InBr, A: -1}, {Op: impl.InCall, A: 1001}, {Op: impl.InLoad32, A: 10001}, {Op: impl.InStore64, A: -1},
		{Op: impl.InConst32, A: 1 << 31}, {Op: impl.InConst32, A: -1<<31 - 1}, {Op: impl.InConstF, A: -1}, {Op: impl.InConstF, A: 1 << 32},
	} {
		for _, n := range []int{1, 2, 5, impl.MaxBody} {
			for at := range n {
				l := slices.Repeat([]impl.Ins{{Op: impl.InNop}}, n)
				l[n-1] = impl.Ins{Op: impl.InEnd}
				l[at] = bad
				if s, ok := impl.CodeBytes(l); s != "" || ok {
					t.Fatalf("%v at %d of %d: %x, %t", bad, at, n, s, ok)
				}
				if e, ok := impl.EndsOf(l); len(e) != 0 || ok {
					t.Fatalf("%v at %d of %d: EndsOf %v, %t", bad, at, n, e, ok)
				}
				if deep, ok := impl.DeepestOf(l); deep != 0 || ok {
					t.Fatalf("%v at %d of %d: DeepestOf %d, %t", bad, at, n, deep, ok)
				}
			}
		}
	}
}
