package tests

import (
	"math"
	"math/big"
	"math/rand"
	"testing"

	"loop.example/g00209/impl"
)

// The constants are told in the document by their numbers.
func TestIntegerConstants(t *testing.T) {
	ops := []int{impl.OpAdd, impl.OpSub, impl.OpMul, impl.OpDivS, impl.OpDivU, impl.OpRemS, impl.OpRemU,
		impl.OpAnd, impl.OpOr, impl.OpXor, impl.OpShl, impl.OpShrS, impl.OpShrU, impl.OpRotl, impl.OpRotr,
		impl.OpEq, impl.OpNe, impl.OpLtS, impl.OpLtU, impl.OpGtS, impl.OpGtU,
		impl.OpClz, impl.OpCtz, impl.OpPopcnt, impl.OpEqz, impl.OpExtend8, impl.OpExtend16}
	for i, op := range ops {
		if op != i+1 {
			t.Errorf("operation %d of the document's list is %d", i+1, op)
		}
	}
	for i, trap := range []int{impl.TrapNone, impl.TrapDivide, impl.TrapOverflow, impl.TrapNoOp} {
		if trap != i {
			t.Errorf("trap %d of the document's list is %d", i, trap)
		}
	}
}

// edgeWords: around 0, around the greatest and the least of 8, 16, 32 and 64 bits, around shifts, and words
// of 32 bits with other bits above them.
func edgeWords() []uint64 {
	l := []uint64{2, 3, 5, 7, 10, 31, 33, 63, 65, 95, 96, 127, 129, 0x5555555555555555, 0xaaaaaaaaaaaaaaaa,
		0x12345678, 0x123456789abcdef0, 0xdeadbeef00000000, 0xdeadbeef00000001, 0xdeadbeef80000000,
		0xdeadbeefffffffff, 0x00000001ffffffff, 0x7fffffff80000000, 0xfffffff9, 0xfffffffffffffff9}
	for _, from := range []uint64{0, 32, 64, 1 << 7, 1 << 8, 1 << 15, 1 << 16, 1 << 31, 1 << 32, 1 << 63} {
		l = append(l, from-1, from, from+1)
	}
	return l
}

// anyWord: words of every length, and their complements.
func anyWord(r *rand.Rand) uint64 {
	a := r.Uint64() >> r.Intn(64)
	if r.Intn(2) == 0 {
		return ^a
	}
	return a
}

func power(bits int) *big.Int { return new(big.Int).Lsh(big.NewInt(1), uint(bits)) }

// unsignedBig and signedBig: the number that the lowest bits of a are, worked out without the language's words.
func unsignedBig(bits int, a uint64) *big.Int {
	return new(big.Int).Mod(new(big.Int).SetUint64(a), power(bits))
}

func signedBig(bits int, a uint64) *big.Int {
	n := unsignedBig(bits, a)
	if n.Bit(bits-1) == 1 {
		n.Sub(n, power(bits))
	}
	return n
}

func wordOf(bits int, n *big.Int) uint64 { return new(big.Int).Mod(n, power(bits)).Uint64() }

func wantOne(holds bool) *big.Int {
	if holds {
		return big.NewInt(1)
	}
	return big.NewInt(0)
}

// wantDivision answers nil beside a trap.
func wantDivision(bits int, op int, a uint64, b uint64) (*big.Int, int) {
	x, y := unsignedBig(bits, a), unsignedBig(bits, b)
	if op == impl.OpDivS || op == impl.OpRemS {
		x, y = signedBig(bits, a), signedBig(bits, b)
	}
	if y.Sign() == 0 {
		return nil, impl.TrapDivide
	}
	quotient, left := new(big.Int).QuoRem(x, y, new(big.Int))
	if op == impl.OpRemS || op == impl.OpRemU {
		return left, impl.TrapNone
	}
	if op == impl.OpDivS && quotient.Cmp(power(bits-1)) == 0 {
		return nil, impl.TrapOverflow
	}
	return quotient, impl.TrapNone
}

func wantTurned(bits int, op int, a uint64, b uint64) *big.Int {
	x, s := unsignedBig(bits, a), signedBig(bits, a)
	by := int(unsignedBig(bits, b).Uint64() % uint64(bits))
	switch op {
	case impl.OpShl:
		return x.Mul(x, power(by))
	case impl.OpShrU:
		return x.Div(x, power(by))
	case impl.OpShrS:
		return s.Div(s, power(by))
	case impl.OpRotr:
		by = bits - by
	}
	n := new(big.Int)
	for i := range bits {
		n.SetBit(n, (i+by)%bits, x.Bit(i))
	}
	return n
}

// wantBinary is the document's table, worked out by numbers of any size.
func wantBinary(bits int, op int, a uint64, b uint64) (*big.Int, int) {
	x, y, n := unsignedBig(bits, a), unsignedBig(bits, b), new(big.Int)
	compared, signs := x.Cmp(y), signedBig(bits, a).Cmp(signedBig(bits, b))
	switch op {
	case impl.OpAdd:
		return n.Add(x, y), impl.TrapNone
	case impl.OpSub:
		return n.Sub(x, y), impl.TrapNone
	case impl.OpMul:
		return n.Mul(x, y), impl.TrapNone
	case impl.OpDivS, impl.OpDivU, impl.OpRemS, impl.OpRemU:
		return wantDivision(bits, op, a, b)
	case impl.OpAnd:
		return n.And(x, y), impl.TrapNone
	case impl.OpOr:
		return n.Or(x, y), impl.TrapNone
	case impl.OpXor:
		return n.Xor(x, y), impl.TrapNone
	case impl.OpShl, impl.OpShrS, impl.OpShrU, impl.OpRotl, impl.OpRotr:
		return wantTurned(bits, op, a, b), impl.TrapNone
	case impl.OpEq:
		return wantOne(compared == 0), impl.TrapNone
	case impl.OpNe:
		return wantOne(compared != 0), impl.TrapNone
	case impl.OpLtS:
		return wantOne(signs < 0), impl.TrapNone
	case impl.OpLtU:
		return wantOne(compared < 0), impl.TrapNone
	case impl.OpGtS:
		return wantOne(signs > 0), impl.TrapNone
	case impl.OpGtU:
		return wantOne(compared > 0), impl.TrapNone
	}
	return nil, impl.TrapNoOp
}

func checkBinary(t *testing.T, bits int, op int, a uint64, b uint64) {
	t.Helper()
	want := uint64(0)
	big, wantTrap := wantBinary(bits, op, a, b)
	if big != nil {
		want = wordOf(bits, big)
	}
	if n, trap := impl.Binary(bits, op, a, b); n != want || trap != wantTrap {
		t.Fatalf("Binary(%d, %d, %x, %x) = %x, %d, want %x, %d", bits, op, a, b, n, trap, want, wantTrap)
	}
}

// Promise 3: each operation of two numbers, at the edges and at any numbers.
func TestBinaryOperations(t *testing.T) {
	words := edgeWords()
	r := rand.New(rand.NewSource(3))
	for _, bits := range []int{32, 64} {
		for op := impl.OpAdd; op <= impl.OpGtU; op++ {
			for _, a := range words {
				for _, b := range words {
					checkBinary(t, bits, op, a, b)
				}
			}
			for range 2000 {
				checkBinary(t, bits, op, anyWord(r), anyWord(r))
			}
		}
	}
}

// Promise 3: some answers written out, so that they hang on no other way of working them out.
func TestBinaryWrittenOut(t *testing.T) {
	const least32, least64, minus32, minus64 = 1 << 31, 1 << 63, math.MaxUint32, math.MaxUint64
	for _, c := range []struct {
		bits, op   int
		a, b, want uint64
		trap       int
	}{
		{32, impl.OpAdd, minus32, 1, 0, impl.TrapNone},
		{64, impl.OpAdd, minus64, 2, 1, impl.TrapNone},
		{32, impl.OpSub, 0, 1, minus32, impl.TrapNone},
		{64, impl.OpSub, 0, 1, minus64, impl.TrapNone},
		{32, impl.OpMul, 0x10000, 0x10000, 0, impl.TrapNone},
		{64, impl.OpMul, 0x10000, 0x10000, 1 << 32, impl.TrapNone},
		{32, impl.OpDivS, 7, minus32 - 1, minus32 - 2, impl.TrapNone},
		{32, impl.OpRemS, 7, minus32 - 1, 1, impl.TrapNone},
		{64, impl.OpDivS, minus64 - 6, 2, minus64 - 2, impl.TrapNone},
		{64, impl.OpRemS, minus64 - 6, 2, minus64, impl.TrapNone},
		{32, impl.OpDivU, minus32 - 6, 2, 2147483644, impl.TrapNone},
		{32, impl.OpRemU, minus32 - 6, 2, 1, impl.TrapNone},
		{32, impl.OpDivS, least32, minus32, 0, impl.TrapOverflow},
		{64, impl.OpDivS, least64, minus64, 0, impl.TrapOverflow},
		{32, impl.OpDivS, 0xabcd0000_80000000, 0x1234_ffffffff, 0, impl.TrapOverflow},
		{64, impl.OpDivS, least32, minus32, 0, impl.TrapNone},
		{32, impl.OpDivS, least32 + 1, minus32, least32 - 1, impl.TrapNone},
		{32, impl.OpDivS, least32, 1, least32, impl.TrapNone},
		{32, impl.OpRemS, least32, minus32, 0, impl.TrapNone},
		{64, impl.OpRemS, least64, minus64, 0, impl.TrapNone},
		{32, impl.OpDivU, least32, minus32, 0, impl.TrapNone},
		{32, impl.OpRemU, least32, minus32, least32, impl.TrapNone},
		{32, impl.OpShl, 1, 31, least32, impl.TrapNone},
		{32, impl.OpShl, 1, 32, 1, impl.TrapNone},
		{32, impl.OpShl, 1, 33, 2, impl.TrapNone},
		{64, impl.OpShl, 1, 63, least64, impl.TrapNone},
		{64, impl.OpShl, 1, 64, 1, impl.TrapNone},
		{64, impl.OpShl, 1, 65, 2, impl.TrapNone},
		{32, impl.OpShrS, least32, 31, minus32, impl.TrapNone},
		{32, impl.OpShrU, least32, 31, 1, impl.TrapNone},
		{64, impl.OpShrS, least64, 127, minus64, impl.TrapNone},
		{64, impl.OpShrU, least64, 127, 1, impl.TrapNone},
		{32, impl.OpRotl, 0x80000001, 1, 3, impl.TrapNone},
		{32, impl.OpRotr, 0x80000001, 1, 0xc0000000, impl.TrapNone},
		{64, impl.OpRotl, least64 | 1, 65, 3, impl.TrapNone},
		{64, impl.OpRotr, least64 | 1, 65, 3 << 62, impl.TrapNone},
		{32, impl.OpEq, 0x1_00000005, 5, 1, impl.TrapNone},
		{64, impl.OpEq, 0x1_00000005, 5, 0, impl.TrapNone},
		{32, impl.OpLtS, minus32, 0, 1, impl.TrapNone},
		{32, impl.OpLtU, minus32, 0, 0, impl.TrapNone},
		{64, impl.OpGtS, minus32, 0, 1, impl.TrapNone},
		{64, impl.OpGtU, 0, minus64, 0, impl.TrapNone},
	} {
		if n, trap := impl.Binary(c.bits, c.op, c.a, c.b); n != c.want || trap != c.trap {
			t.Errorf("Binary(%d, %d, %x, %x) = %x, %d, want %x, %d", c.bits, c.op, c.a, c.b, n, trap, c.want, c.trap)
		}
	}
}

// binary is for numbers where there is no trap.
func binary(t *testing.T, bits int, op int, a uint64, b uint64) uint64 {
	t.Helper()
	n, trap := impl.Binary(bits, op, a, b)
	if trap != impl.TrapNone {
		t.Fatalf("Binary(%d, %d, %x, %x): trap %d", bits, op, a, b, trap)
	}
	return n
}

// Promise 3: a quotient times the divisor and what is left is the number.
func checkDivided(t *testing.T, bits int, a uint64, b uint64) {
	t.Helper()
	cut, _ := impl.BitsOf(bits, int(a))
	for _, ops := range [][2]int{{impl.OpDivU, impl.OpRemU}, {impl.OpDivS, impl.OpRemS}} {
		quotient, trap := impl.Binary(bits, ops[0], a, b)
		if trap == impl.TrapOverflow {
			continue
		}
		left := binary(t, bits, ops[1], a, b)
		again := binary(t, bits, impl.OpAdd, binary(t, bits, impl.OpMul, quotient, b), left)
		if trap != impl.TrapNone || again != cut {
			t.Fatalf("%d bits, %x by %x: quotient %x, left %x, trap %d", bits, a, b, quotient, left, trap)
		}
		less := unsignedBig(bits, left).Cmp(unsignedBig(bits, b)) < 0
		if ops[0] == impl.OpDivS {
			n := signedBig(bits, left)
			less = n.CmpAbs(signedBig(bits, b)) < 0 && (n.Sign() == 0 || n.Sign() == signedBig(bits, a).Sign())
		}
		if !less {
			t.Fatalf("%d bits, %x by %x: %x is left", bits, a, b, left)
		}
	}
}

// Promise 3: what is turned left is turned right again, and no bit is lost.
func checkTurned(t *testing.T, bits int, a uint64, by uint64) {
	t.Helper()
	cut, _ := impl.BitsOf(bits, int(a))
	left := binary(t, bits, impl.OpRotl, a, by)
	if again := binary(t, bits, impl.OpRotr, left, by); again != cut {
		t.Fatalf("%d bits, %x turned left by %x and right again: %x", bits, a, by, again)
	}
	right := binary(t, bits, impl.OpRotr, a, by)
	if again := binary(t, bits, impl.OpRotl, right, by); again != cut {
		t.Fatalf("%d bits, %x turned right by %x and left again: %x", bits, a, by, again)
	}
	ones, _ := impl.Unary(bits, impl.OpPopcnt, a)
	if n, _ := impl.Unary(bits, impl.OpPopcnt, left); n != ones {
		t.Fatalf("%d bits, %x turned left by %x: %x", bits, a, by, left)
	}
}

func TestDividedAndTurnedAgain(t *testing.T) {
	r := rand.New(rand.NewSource(33))
	for _, bits := range []int{32, 64} {
		words := edgeWords()
		for range 200 {
			words = append(words, anyWord(r))
		}
		for _, a := range words {
			for _, b := range words {
				checkTurned(t, bits, a, b)
				if cut, _ := impl.BitsOf(bits, int(b)); cut != 0 {
					checkDivided(t, bits, a, b)
				}
			}
		}
	}
}

// Promise 3, wrong inputs: all four divisions by 0, also where it is 0 in the lowest 32 bits alone.
func TestDivisionByNothing(t *testing.T) {
	for _, op := range []int{impl.OpDivS, impl.OpDivU, impl.OpRemS, impl.OpRemU} {
		for _, a := range edgeWords() {
			for _, c := range []struct {
				bits int
				b    uint64
			}{{32, 0}, {64, 0}, {32, 1 << 32}, {32, math.MaxUint32 << 32}} {
				if n, trap := impl.Binary(c.bits, op, a, c.b); n != 0 || trap != impl.TrapDivide {
					t.Errorf("Binary(%d, %d, %x, %x) = %x, %d", c.bits, op, a, c.b, n, trap)
				}
			}
			if _, trap := impl.Binary(64, op, a, 1<<32); trap != impl.TrapNone {
				t.Errorf("Binary(64, %d, %x, 1 << 32): trap %d", op, a, trap)
			}
		}
	}
}
