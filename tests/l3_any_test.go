package tests

import (
	"math"
	"math/rand"
	"testing"

	"loop.example/g00209/impl"
)

// callInt calls every function of chapter 3, and fails where one answers something beside a trap or a false,
// or bits above those of its numbers.
func callInt(t *testing.T, bits int, op int, a uint64, b uint64) {
	t.Helper()
	defer func() {
		if r := recover(); r != nil {
			t.Fatalf("panic at %d, %d, %x, %x: %v", bits, op, a, b, r)
		}
	}()
	good := bits == 32 || bits == 64
	two, one := op >= impl.OpAdd && op <= impl.OpGtU, op >= impl.OpClz && op <= impl.OpExtend16
	n, trap := impl.Binary(bits, op, a, b)
	if (trap == impl.TrapNoOp) != (!good || !two) || trap != impl.TrapNone && n != 0 || bits == 32 && n>>32 != 0 {
		t.Fatalf("Binary(%d, %d, %x, %x) = %x, %d", bits, op, a, b, n, trap)
	}
	n, trap = impl.Unary(bits, op, a)
	if (trap == impl.TrapNone) != (good && one) || trap != impl.TrapNone && (n != 0 || trap != impl.TrapNoOp) || bits == 32 && n>>32 != 0 {
		t.Fatalf("Unary(%d, %d, %x) = %x, %d", bits, op, a, n, trap)
	}
	if s, ok := impl.SignedOf(bits, a); ok != good || !ok && s != 0 {
		t.Fatalf("SignedOf(%d, %x) = %d, %t", bits, a, s, ok)
	}
	if n, ok := impl.BitsOf(bits, int(a)); ok != good || !ok && n != 0 {
		t.Fatalf("BitsOf(%d, %d) = %x, %t", bits, int(a), n, ok)
	}
	checkDiv128(t, a, b, uint64(op))
	impl.WrapTo32(a)
	impl.Extend32(a, op > 0)
	impl.Mul128(a, b)
}

// Promise 19: every function answers at any arguments: bits other than 32 and 64, operations of the other
// function, and such as there are none.
func TestIntegersAnswerAtAnything(t *testing.T) {
	widths := []int{32, 64, 0, 1, 8, 16, 31, 33, 63, 65, 128, -1, -32, -64, 1<<32 + 32, math.MaxInt, math.MinInt}
	ops := []int{-1, -22, -27, 100, 255, 256, 1 << 32, 1<<32 + 1, math.MaxInt, math.MinInt}
	for op := range 32 {
		ops = append(ops, op)
	}
	words := []uint64{0, 1, 2, 31, 32, 64, 1<<31 - 1, 1 << 31, 1<<32 - 1, 1 << 32, 1<<63 - 1, 1 << 63, math.MaxUint64}
	for _, bits := range widths {
		for _, op := range ops {
			for _, a := range words {
				for _, b := range words {
					callInt(t, bits, op, a, b)
				}
			}
		}
	}
	r := rand.New(rand.NewSource(19))
	for range 50000 {
		callInt(t, widths[r.Intn(len(widths))], int(anyWord(r)), anyWord(r), anyWord(r))
	}
}

// Promise 19: the same call answers the same again, whatever was asked in between.
func TestIntegersKeepNothing(t *testing.T) {
	for op := range 30 {
		n, trap := impl.Binary(64, op, 1<<63|5, 3)
		m, other := impl.Unary(64, op, 1<<63|5)
		callInt(t, 32, op, 9, 0)
		callInt(t, 7, op, 9, 9)
		if x, y := impl.Binary(64, op, 1<<63|5, 3); x != n || y != trap {
			t.Errorf("operation %d of two: %x, %d, then %x, %d", op, n, trap, x, y)
		}
		if x, y := impl.Unary(64, op, 1<<63|5); x != m || y != other {
			t.Errorf("operation %d of one: %x, %d, then %x, %d", op, m, other, x, y)
		}
	}
}
