package tests

import (
	"math"
	"math/rand"
	"testing"

	"loop.example/g00209/impl"
)

// floatAnswers: what every function of chapter 4 answers, in a row; fails where one panics.
func floatAnswers(t *testing.T, kind int, other int, a uint32, b uint32, n int, m uint64) []uint64 {
	t.Helper()
	defer func() {
		if r := recover(); r != nil {
			t.Fatalf("panic at %d, %d, %x, %x, %d, %d: %v", kind, other, a, b, n, m, r)
		}
	}()
	one := func(holds bool) uint64 { return wantOne(holds).Uint64() }
	neg, part, e, ok := impl.FloatParts(kind, a)
	l := []uint64{one(neg), part, uint64(e), one(ok)}
	for _, more := range []bool{false, true} {
		x, ok := impl.RoundFloat(kind, a%2 == 1, m, n, more)
		l = append(l, uint64(x), one(ok))
	}
	for _, work := range []func(int, uint32, uint32) uint32{impl.FAdd, impl.FSub, impl.FMul, impl.FDiv, impl.FMin} {
		l = append(l, uint64(work(kind, a, b)))
	}
	l = append(l, uint64(impl.FSqrt(kind, a)), uint64(impl.FCompare(kind, a, b)), uint64(impl.FRound(kind, n, a)), uint64(impl.FOfInt(kind, n)),
		uint64(impl.FConvert(kind, other, a)), uint64(impl.FConvert(other, kind, b)))
	for _, bits := range []int{n, 32, 64} {
		whole, trap := impl.FToInt(kind, a, bits, b%2 == 1)
		l = append(l, whole, uint64(trap))
	}
	return l
}

func anyKinds() []int {
	return []int{0, 1, 2, 15, 17, 31, 33, 48, 64, 80, 128, -1, -16, -32, 1<<32 + 16, 1<<32 + 32, math.MaxInt, math.MinInt}
}

func anyInts() []int {
	return []int{0, 1, 2, 3, 4, 5, -1, 32, 64, 1000, 1001, -1000, -1001, 1 << 60, math.MaxInt, math.MinInt}
}

func anySizes() []uint64 {
	return []uint64{0, 1, 1<<12 - 1, 1 << 12, 1<<25 - 1, 1 << 25, 1<<60 - 1, 1 << 60, math.MaxUint64}
}

// Promise 19: for another kind all answers are zero, whatever else is asked.
func TestFloatsOfNoKind(t *testing.T) {
	for _, kind := range anyKinds() {
		for _, a := range singles.edgeFloats() {
			for i, n := range anyInts() {
				for j, x := range floatAnswers(t, kind, 16+16*(i%2), a, a^1, n, anySizes()[i%len(anySizes())]) {
					if x != 0 {
						t.Fatalf("kind %d, %x, %d: answer %d is %x", kind, a, n, j, x)
					}
				}
			}
		}
	}
}

// Promise 19: every function answers at any arguments, with the bits that the kind has alone.
func TestFloatsAnswerAtAnything(t *testing.T) {
	r := rand.New(rand.NewSource(54))
	words := append(halves.edgeFloats(), singles.edgeFloats()...)
	for _, s := range shapes {
		for _, a := range words {
			for _, b := range words[:20] {
				for i, n := range anyInts() {
					floatAnswers(t, s.kind, s.kind^48, a, b, n, anySizes()[i%len(anySizes())])
				}
			}
		}
		for range 50000 {
			floatAnswers(t, s.kind, int(anyWord(r)), r.Uint32(), r.Uint32(), int(anyWord(r)), anyWord(r))
			checkBitsAbove(t, r)
		}
	}
}

// checkBitsAbove: of a half only the lowest 16 bits count, and no others are told.
func checkBitsAbove(t *testing.T, r *rand.Rand) {
	t.Helper()
	a, b, n, m := halves.anyFloat(r), halves.anyFloat(r), r.Intn(6), anyWord(r)
	want := floatAnswers(t, 16, 16, a, b, n, m)
	for i, x := range floatAnswers(t, 16, 16, a|r.Uint32()<<16, b|r.Uint32()<<16, n, m) {
		if x != want[i] {
			t.Fatalf("halves %x and %x with bits above: answer %d is %x, want %x", a, b, i, x, want[i])
		}
	}
	for _, x := range []uint32{impl.FAdd(16, a, b), impl.FSub(16, a, b), impl.FMul(16, a, b), impl.FDiv(16, a, b), impl.FMin(16, a, b),
		impl.FSqrt(16, a), impl.FRound(16, n, a), impl.FOfInt(16, int(m)), impl.FConvert(32, 16, a<<16|b)} {
		if x>>16 != 0 {
			t.Fatalf("halves %x and %x, %d, %d: %x is told", a, b, n, m, x)
		}
	}
}

// Promise 19: the same call answers the same again, whatever was asked in between.
func TestFloatsKeepNothing(t *testing.T) {
	for _, s := range shapes {
		for _, a := range s.edgeFloats() {
			first := floatAnswers(t, s.kind, 16, a, 0x3c00, 2, 1<<30+1)
			floatAnswers(t, s.kind^48, 32, a^5, 0x7f800000, 1001, 9)
			for i, x := range floatAnswers(t, s.kind, 16, a, 0x3c00, 2, 1<<30+1) {
				if x != first[i] {
					t.Errorf("kind %d, %x: answer %d was %x, then %x", s.kind, a, i, first[i], x)
				}
			}
		}
	}
}
