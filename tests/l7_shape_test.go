package tests

import (
	"math"
	"slices"
	"testing"

	"loop.example/g00209/impl"
)

// checkShape: whether it has shape; without it nothing is told of any func, nor of the module.
func checkShape(t *testing.T, m impl.Module, want bool) {
	t.Helper()
	if impl.GoodShape(m) != want {
		t.Errorf("GoodShape(%v) = %t", m, !want)
	}
	code, which, at := impl.CheckModule(m)
	if want == (code == impl.CheckForm) || !want && (which != 0 || at != 0) {
		t.Errorf("CheckModule(%v) = %d, %d, %d", m, code, which, at)
	}
	for k := -1; k <= len(m.Funcs); k++ {
		code, at := impl.CheckFunc(m, k)
		isFunc := want && k >= 0 && k < len(m.Funcs)
		if isFunc == (code == impl.CheckForm) || !isFunc && at != 0 {
			t.Errorf("CheckFunc(%v, %d) = %d, %d", m, k, code, at)
		}
		if high, ok := impl.HighestOf(m, k); ok != (code == impl.CheckOk) || !ok && high != 0 {
			t.Errorf("HighestOf(%v, %d) = %d, %t", m, k, high, ok)
		}
	}
}

// nearTypes: numbers near to types, and very great ones; the three types too.
func nearTypes() []int {
	return []int{0, 1, -1, 63, 64, 65, 124, 125, 126, 127, 128, -64, -127, 255, 256 + 127, 1<<32 + 127, math.MaxInt, math.MinInt}
}

// Promise 7: Params, Locals, Results and globals of types and of other numbers, each at any place.
func TestShapeOfTypes(t *testing.T) {
	body := codeOfWords("unreachable end")
	for _, n := range nearTypes() {
		is := n == 127 || n == 126 || n == 125
		for many := 1; many <= 6; many++ {
			for at := range many {
				l := slices.Repeat([]int{impl.TypeF32}, many)
				l[at] = n
				checkShape(t, impl.Module{Start: -1, Funcs: []impl.Func{{Params: l, Result: impl.TypeNone, Body: body}}}, is)
				checkShape(t, impl.Module{Start: -1, Funcs: []impl.Func{{Locals: l, Result: impl.TypeI32, Body: body}}}, is)
				globals := slices.Repeat([]impl.Global{{Type: impl.TypeI64}}, many)
				globals[at] = impl.Global{Type: n, Fixed: many%2 == 0}
				checkShape(t, impl.Module{Start: -1, Globals: globals}, is)
				funcs := slices.Repeat([]impl.Func{{Result: impl.TypeI32, Body: body}}, many)
				funcs[at].Result = n
				checkShape(t, impl.Module{Start: -1, Funcs: funcs}, is || n == 64)
			}
		}
	}
}

// Promise 7: limits may be met exactly, and not gone beyond.
func TestShapeAtItsLimits(t *testing.T) {
	empty := funcOf(">", "", "end")
	for _, n := range []int{0, 1, 5, 6, 7, 9, 10, 11, 19, 20, 21, 100} {
		types := slices.Repeat([]int{impl.TypeI64}, n)
		checkShape(t, impl.Module{Start: -1, Funcs: slices.Repeat([]impl.Func{empty}, n)}, n <= 10)
		checkShape(t, impl.Module{Start: -1, Globals: slices.Repeat([]impl.Global{{Type: impl.TypeI32}}, n)}, n <= 6)
		checkShape(t, impl.Module{Start: -1, Funcs: []impl.Func{empty, {Params: types, Result: impl.TypeNone, Body: empty.Body}}}, n <= 6)
		checkShape(t, impl.Module{Start: -1, Funcs: []impl.Func{empty, {Locals: types, Result: impl.TypeNone, Body: empty.Body}}}, n <= 20)
	}
	full := impl.Func{Params: slices.Repeat([]int{impl.TypeI32}, 6), Locals: slices.Repeat([]int{impl.TypeF32}, 20), Result: impl.TypeF32}
	full.Body = append(slices.Repeat(codeOfWords("nop"), 198), codeOfWords("get:25 end")...)
	m := impl.Module{Funcs: slices.Repeat([]impl.Func{full}, 10), Globals: slices.Repeat([]impl.Global{{Type: impl.TypeI64, Bits: math.MaxUint64}}, 6), Memory: true, Pages: 8, Most: 8, Start: -1}
	checkShape(t, m, true)
	checkTyped(t, m, 9, impl.CheckOk, 0, 1)
	m.Funcs[9].Body = append(slices.Repeat(codeOfWords("nop"), 198), codeOfWords("get:26 end")...)
	checkTyped(t, m, 9, impl.CheckIndex, 198, 0)
	m.Funcs[9].Body = append(codeOfWords("nop"), m.Funcs[9].Body...)
	checkShape(t, m, false)
}

// The row of Params and Locals, the funcs and the globals: just within and just beyond, as many as there may be.
func TestIndexesAtTheirEnds(t *testing.T) {
	for params := range impl.MaxParams + 1 {
		for _, locals := range []int{0, 1, 7, impl.MaxLocals} {
			f := impl.Func{Params: slices.Repeat([]int{impl.TypeI32}, params), Locals: slices.Repeat([]int{impl.TypeF32}, locals), Result: impl.TypeNone}
			for a := range 30 {
				m := impl.Module{Start: -1, Funcs: []impl.Func{f}}
				m.Funcs[0].Body = []impl.Ins{{Op: impl.InUnreachable}, {Op: impl.InGet, A: a}, {Op: impl.InSet, A: a}, {Op: impl.InTee, A: a}, {Op: impl.InDrop}, {Op: impl.InEnd}}
				if a >= params+locals {
					checkTyped(t, m, 0, impl.CheckIndex, 1, 0)
					m.Funcs[0].Body[1].Op = impl.InTee
					checkTyped(t, m, 0, impl.CheckIndex, 1, 0)
					m.Funcs[0].Body[1].Op = impl.InSet
					checkTyped(t, m, 0, impl.CheckIndex, 1, 0)
					continue
				}
				checkTyped(t, m, 0, impl.CheckOk, 0, 1)
			}
		}
	}
	for many := range 11 {
		for a := range 12 {
			m := impl.Module{Start: -1, Funcs: slices.Repeat([]impl.Func{funcOf(">", "", "end")}, many+1)}
			m.Funcs[many].Body = []impl.Ins{{Op: impl.InCall, A: a}, {Op: impl.InEnd}}
			code := impl.CheckOk
			if a > many {
				code = impl.CheckIndex
			}
			if many == 10 {
				code = impl.CheckForm
			}
			checkTyped(t, m, many, code, 0, 0)
		}
	}
	for many := range 7 {
		for a := range 8 {
			for _, x := range []impl.Ins{{Op: impl.InGlobalGet, A: a}, {Op: impl.InGlobalSet, A: a}} {
				m := impl.Module{Start: -1, Funcs: []impl.Func{funcOf(">", "", "")}, Globals: slices.Repeat([]impl.Global{{Type: impl.TypeF32}}, many)}
				m.Funcs[0].Body = []impl.Ins{{Op: impl.InUnreachable}, x, {Op: impl.InReturn}, {Op: impl.InEnd}}
				if a >= many {
					checkTyped(t, m, 0, impl.CheckIndex, 1, 0)
				} else {
					checkTyped(t, m, 0, impl.CheckOk, 0, oneIfGet(x.Op))
				}
			}
		}
	}
}

func oneIfGet(op int) int {
	if op == impl.InGlobalGet {
		return 1
	}
	return 0
}

// A global's Bits: those of 32 bits below 2^32, those of TypeI64 any.
func TestShapeOfBits(t *testing.T) {
	for _, bits := range []uint64{0, 1, 1 << 31, 1<<32 - 1, 1 << 32, 1<<32 + 1, 1 << 33, 1 << 63, math.MaxUint64, math.MaxUint64 - 1<<32 + 1} {
		for _, typ := range []int{impl.TypeI32, impl.TypeI64, impl.TypeF32, impl.TypeNone, 0} {
			for _, fixed := range []bool{false, true} {
				g := impl.Global{Type: typ, Fixed: fixed, Bits: bits}
				want := typ == impl.TypeI64 || (typ == impl.TypeI32 || typ == impl.TypeF32) && bits < 4294967296
				checkShape(t, impl.Module{Start: -1, Globals: []impl.Global{g}}, want)
				checkShape(t, impl.Module{Start: -1, Globals: []impl.Global{{Type: impl.TypeI32}, g}}, want)
				checkShape(t, impl.Module{Start: -1, Globals: []impl.Global{g, {Type: impl.TypeI32}}}, want)
			}
		}
	}
}

// Pages and Most at their ends, with a memory and without.
func TestShapeOfMemory(t *testing.T) {
	numbers := []int{math.MinInt, -9, -1, 0, 1, 2, 4, 7, 8, 9, 256, math.MaxInt - 1, math.MaxInt}
	for _, pages := range numbers {
		for _, most := range numbers {
			checkShape(t, impl.Module{Start: -1, Memory: true, Pages: pages, Most: most}, 0 <= pages && pages <= most && most <= 8)
			checkShape(t, impl.Module{Start: -1, Pages: pages, Most: most}, pages == 0 && most == 0)
		}
	}
}

// Start: none, one of a func that may be it, or of one that may not.
func TestShapeOfStart(t *testing.T) {
	m := impl.Module{Funcs: []impl.Func{
		funcOf(">", "", "end"), funcOf("i>", "", "end"), funcOf(">i", "", "i end"), funcOf("f>I", "", "I end"),
		funcOf(">", "iIf", "end"), funcOf(">", "", "drop end"),
	}}
	for start, want := range map[int]bool{
		-1: true, 0: true, 1: false, 2: false, 3: false, 4: true, 5: true, // one with a fault has shape all the same
		6: false, 7: false, -2: false, 10: false, math.MaxInt: false, math.MinInt: false,
	} {
		m.Start = start
		checkShape(t, m, want)
	}
	checkShape(t, impl.Module{}, false)
	checkShape(t, impl.Module{Start: -1}, true)
	checkShape(t, impl.Module{Start: -1, Funcs: []impl.Func{{}}}, false)
}

// Bodies that are none, in the first func, in the last one, among others.
func TestShapeOfBodies(t *testing.T) {
	right := funcOf(">", "", "end")
	for _, body := range [][]impl.Ins{
		nil, {}, codeOfWords("nop"), codeOfWords("block end"), codeOfWords("end end"), codeOfWords("end nop"), codeOfWords("else end"),
		codeOfWords("block else end end"), codeOfWords("i if else else end end"),
		{{Op: 6}, {Op: impl.InEnd}}, {{Op: impl.InNop, A: 1}, {Op: impl.InEnd}}, {{Op: impl.InBlock}, {Op: impl.InEnd}, {Op: impl.InEnd}},
		{{Op: impl.InCall, A: 1001}, {Op: impl.InEnd}}, {{Op: impl.InGet, A: -1}, {Op: impl.InEnd}}, {{Op: impl.InBr, A: -1}, {Op: impl.InEnd}},
		{{Op: math.MaxInt, A: math.MaxInt}, {Op: impl.InEnd}}, {{Op: impl.InEnd, A: 1}},
		append(slices.Repeat(codeOfWords("nop"), impl.MaxBody), impl.Ins{Op: impl.InEnd}),
	} {
		f := impl.Func{Result: impl.TypeNone, Body: body}
		checkShape(t, impl.Module{Start: -1, Funcs: []impl.Func{f}}, false)
		checkShape(t, impl.Module{Start: -1, Funcs: []impl.Func{f, right, right}}, false)
		checkShape(t, impl.Module{Start: -1, Funcs: []impl.Func{right, right, f}}, false)
	}
	long := impl.Func{Result: impl.TypeNone, Body: append(slices.Repeat(codeOfWords("nop"), impl.MaxBody-1), impl.Ins{Op: impl.InEnd})}
	checkShape(t, impl.Module{Start: -1, Funcs: []impl.Func{right, long}}, true)
}

// A k that is no func.
func TestNoSuchFunc(t *testing.T) {
	m := moduleOf(funcOf(">i", "", "i end"))
	for _, k := range []int{-1, 4, 5, 10, 127, -4, math.MaxInt, math.MinInt, 1 << 32, -1 << 32} {
		checkTyped(t, m, k, impl.CheckForm, 0, 0)
	}
	checkTyped(t, impl.Module{Start: -1}, 0, impl.CheckForm, 0, 0)
}
