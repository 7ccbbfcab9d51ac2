package tests

import (
	"fmt"
	"math"
	"math/rand"
	"slices"
	"strings"
	"testing"

	"loop.example/g00209/impl"
)

// wordsOf: "i:5 I:-1 f:1065353216", a float by its bits.
func wordsOf(s string) []impl.Word {
	var l []impl.Word
	for _, x := range codeOfWords(s) {
		w := impl.Word{Type: map[int]int{impl.InConst32: impl.TypeI32, impl.InConst64: impl.TypeI64, impl.InConstF: impl.TypeF32}[x.Op], Bits: uint64(x.A)}
		if w.Type != impl.TypeI64 {
			w.Bits %= 1 << 32
		}
		l = append(l, w)
	}
	return l
}

// wordOrNone: the only one, or the zero word.
func wordOrNone(s string) impl.Word {
	for _, w := range wordsOf(s) {
		return w
	}
	return impl.Word{}
}

// stateText: how many pages there are, and what in globals and memory is not 0.
func stateText(s impl.State) string {
	var text strings.Builder
	fmt.Fprintf(&text, "p%d", len(s.Memory.Data)/impl.PageSize)
	for i, w := range s.Globals {
		if w.Bits != 0 {
			fmt.Fprintf(&text, " g%d=%x", i, w.Bits)
		}
	}
	for i := range len(s.Memory.Data) {
		if b := s.Memory.Data[i]; b != 0 {
			fmt.Fprintf(&text, " m%d=%x", i, b)
		}
	}
	return text.String()
}

// node: an instruction, a block with what is in it. The InElse and InEnd are not told.
type node struct {
	x       impl.Ins
	first   []node
	second  []node
	divided bool
}

// treeOf: a row up to its InElse or InEnd, and what stands there and behind.
func treeOf(body []impl.Ins) ([]node, []impl.Ins) {
	var l []node
	for body[0].Op != impl.InElse && body[0].Op != impl.InEnd {
		n := node{x: body[0]}
		body = body[1:]
		if n.x.Op == impl.InBlock || n.x.Op == impl.InLoop || n.x.Op == impl.InIf {
			n.first, body = treeOf(body)
			if n.divided = body[0].Op == impl.InElse; n.divided {
				n.second, body = treeOf(body[1:])
			}
			body = body[1:]
		}
		l = append(l, n)
	}
	return l, body
}

// gaveUp: how a run ended that did not come to its end.
type gaveUp struct{ code, trap int }

func mustHold(holds bool) {
	if !holds {
		panic(gaveUp{code: impl.RunStuck})
	}
}

func mustNot(trap int, trapped bool) {
	if trapped {
		panic(gaveUp{impl.RunTrap, trap})
	}
}

// treeRunner runs code by what it is made of: each row with words of its own, each block whole.
type treeRunner struct {
	m       impl.Module
	globals []impl.Word
	data    []byte
	left    int
	calls   int
}

// wantRun: of what is as said the state in the end and the outcome.
func wantRun(m impl.Module, s impl.State, k int, args []impl.Word, fuel int) (end impl.State, o impl.Outcome) {
	r := &treeRunner{m: m, globals: slices.Clone(s.Globals), data: []byte(s.Memory.Data), left: fuel}
	defer func() {
		if met, ok := recover().(gaveUp); ok {
			o = impl.Outcome{Code: met.code, Trap: met.trap, Left: r.left}
		}
		end = impl.State{Memory: impl.Memory{Max: s.Memory.Max, Data: string(r.data)}, Globals: r.globals}
	}()
	value := r.call(m.Funcs[k], args)
	return end, impl.Outcome{Value: value, Left: r.left}
}

func (r *treeRunner) burn() {
	if r.left == 0 {
		panic(gaveUp{code: impl.RunFuel})
	}
	r.left--
}

func (r *treeRunner) call(f impl.Func, args []impl.Word) impl.Word {
	own := slices.Clone(args)
	for _, t := range f.Locals {
		own = append(own, impl.Word{Type: t})
	}
	l, _ := treeOf(f.Body)
	row := treeRow{r: r, own: own, labels: []string{letterOfType(f.Result)}}
	_, value := row.run(l, letterOfType(f.Result))
	for _, w := range value {
		return w
	}
	return impl.Word{}
}

// treeRow: what a row of instructions has; labels is what branches want, the innermost block's first.
type treeRow struct {
	r      *treeRunner
	own    []impl.Word
	labels []string
	has    []impl.Word
}

// take: as it lies on the stack; ? is any type.
func (w *treeRow) take(wants string) []impl.Word {
	from := len(w.has) - len(wants)
	mustHold(from >= 0)
	got := slices.Clone(w.has[from:])
	for i, g := range got {
		mustHold(sameLetter(wants[i:i+1], letterOfType(g.Type)))
	}
	w.has = w.has[:from]
	return got
}

func (w *treeRow) put(t string, bits uint64) {
	if t != "" {
		w.has = append(w.has, impl.Word{Type: typeOfLetter(t), Bits: bits})
	}
}

// run: how many blocks further out it goes than the one that it is the row of, with what; -1 where it comes to its end,
// which is one step, whether it is an InEnd or an InElse.
func (w *treeRow) run(l []node, leaves string) (int, []impl.Word) {
	for _, n := range l {
		w.r.burn()
		if out, with := w.step(n); out >= 0 {
			return out, with
		}
	}
	w.r.burn()
	with := w.take(leaves)
	mustHold(len(w.has) == 0)
	return -1, with
}

func (w *treeRow) step(n node) (int, []impl.Word) {
	switch n.x.Op {
	case impl.InBlock, impl.InLoop:
		return w.block(n, n.first)
	case impl.InIf:
		if w.take("i")[0].Bits != 0 {
			return w.block(n, n.first)
		}
		if n.divided {
			return w.block(n, n.second)
		}
		return -1, nil
	case impl.InBr, impl.InBrIf:
		mustHold(n.x.A < len(w.labels))
		if n.x.Op == impl.InBrIf && w.take("i")[0].Bits == 0 {
			return -1, nil
		}
		return n.x.A, w.take(w.labels[n.x.A])
	case impl.InReturn:
		out := len(w.labels) - 1
		return out, w.take(w.labels[out])
	case impl.InSelect:
		two := w.take("??i")
		mustHold(two[0].Type == two[1].Type)
		if two[2].Bits == 0 {
			two = two[1:]
		}
		w.has = append(w.has, two[0])
		return -1, nil
	}
	w.plain(n.x)
	return -1, nil
}

func (w *treeRow) block(n node, part []node) (int, []impl.Word) {
	leaves := letterOfType(n.x.A)
	label := leaves
	if n.x.Op == impl.InLoop {
		label = ""
	}
	for {
		row := treeRow{r: w.r, own: w.own, labels: append([]string{label}, w.labels...)}
		out, with := row.run(part, leaves)
		switch {
		case out > 0:
			return out - 1, with
		case out == 0 && n.x.Op == impl.InLoop:
			continue
		}
		w.has = append(w.has, with...)
		return -1, nil
	}
}

// plain: of those that only take and put.
func (w *treeRow) plain(x impl.Ins) {
	m := w.r.m
	m.Globals = slices.Clone(m.Globals)
	for i := range m.Globals {
		m.Globals[i].Fixed = false
	}
	mustNot(impl.TrapUnreachable, x.Op == impl.InUnreachable)
	takes, puts, code := wantSign(m, impl.Func{Params: w.ownTypes()}, x)
	mustHold(code == impl.CheckOk)
	mustNot(impl.TrapDepth, x.Op == impl.InCall && w.r.calls == impl.MaxCalls)
	in := w.take(takes)
	w.put(puts, w.bitsOf(x, in))
}

func (w *treeRow) ownTypes() []int {
	var l []int
	for _, v := range w.own {
		l = append(l, v.Type)
	}
	return l
}

func (w *treeRow) bitsOf(x impl.Ins, in []impl.Word) uint64 {
	switch x.Op {
	case impl.InNop, impl.InDrop:
		return 0
	case impl.InCall:
		w.r.calls++
		value := w.r.call(w.r.m.Funcs[x.A], in)
		w.r.calls--
		return value.Bits
	case impl.InGet:
		return w.own[x.A].Bits
	case impl.InSet, impl.InTee:
		w.own[x.A] = in[0]
		return in[0].Bits
	case impl.InGlobalGet:
		return w.r.globals[x.A].Bits
	case impl.InGlobalSet:
		w.r.globals[x.A] = in[0]
		return 0
	case impl.InConst32, impl.InConst64, impl.InConstF:
		return wordsOf(fmt.Sprintf("%s:%d", map[int]string{65: "i", 66: "I", 67: "f"}[x.Op], x.A))[0].Bits
	case impl.InLoad32, impl.InLoad64, impl.InStore32, impl.InStore64, impl.InSize, impl.InGrow:
		return w.r.memoryBits(x, in)
	}
	return numberBits(x.Op, in)
}

func (r *treeRunner) memoryBits(x impl.Ins, in []impl.Word) uint64 {
	many := map[int]int{40: 4, 41: 8, 54: 4, 55: 8}[x.Op]
	switch x.Op {
	case impl.InSize:
		return uint64(len(r.data) / 256)
	case impl.InGrow:
		was, by := len(r.data)/256, int(int32(in[0].Bits))
		if by < 0 || was+by > r.m.Most {
			return 1<<32 - 1
		}
		r.data = append(r.data, make([]byte, by*256)...)
		return uint64(was)
	}
	at := int(in[0].Bits) + x.A
	mustNot(impl.TrapBounds, at+many > len(r.data))
	bits := uint64(0)
	for i := range many {
		if len(in) == 2 {
			r.data[at+i] = byte(in[1].Bits >> (8 * i))
		}
		bits += uint64(r.data[at+i]) << (8 * i)
	}
	return bits
}

// numberBits: of those that work with numbers alone, by numbers of any size and the language's own floats.
func numberBits(op int, in []impl.Word) uint64 {
	last := in[len(in)-1].Bits
	switch {
	case op > 96 && op <= 96+27:
		return intBits(32, op-96, in[0].Bits, last)
	case op > 128 && op <= 128+27:
		return intBits(64, op-128, in[0].Bits, last)
	case op > 160 && op <= 160+9:
		return singleBits(op-160, math.Float32frombits(uint32(in[0].Bits)), math.Float32frombits(uint32(last)))
	}
	switch op {
	case impl.InWrap:
		return uint64(uint32(last))
	case impl.InExtendS:
		return uint64(int64(int32(last)))
	case impl.InExtendU:
		return last
	case impl.InToFloat:
		return uint64(math.Float32bits(float32(int32(last))))
	}
	n := float64(math.Float32frombits(uint32(last)))
	mustNot(impl.TrapRange, !(math.Trunc(n) >= math.MinInt32 && math.Trunc(n) <= math.MaxInt32))
	return uint64(uint32(int32(n)))
}

func intBits(bits int, op int, a uint64, b uint64) uint64 {
	if op >= 22 {
		n, _ := wantUnary(bits, op, a)
		return n
	}
	n, trap := wantBinary(bits, op, a, b)
	mustNot(impl.TrapDivision, trap == impl.TrapDivide)
	mustNot(impl.TrapRange, trap == impl.TrapOverflow)
	return wordOf(bits, n)
}

func singleBits(op int, a float32, b float32) uint64 {
	switch op {
	case 7:
		return wantOne(a == b).Uint64()
	case 8:
		return wantOne(a < b).Uint64()
	case 9:
		return wantOne(a <= b).Uint64()
	}
	least := float32(math.Min(float64(a), float64(b)))
	n := []float32{0, a + b, a - b, a * b, a / b, least, float32(math.Sqrt(float64(a)))}[op]
	if n != n {
		return 0x7fc00000
	}
	return uint64(math.Float32bits(n))
}

// checkRun: a run answers this, and StepsOf what fits it.
func checkRun(t *testing.T, m impl.Module, s impl.State, k int, args []impl.Word, fuel int, end impl.State, o impl.Outcome) {
	t.Helper()
	gotEnd, got := impl.RunFunc(m, s, k, args, fuel)
	if got != o || !sameState(gotEnd, end) {
		t.Fatalf("RunFunc(%v, %s, %d, %v, %d) = %s, %v, want %s, %v", m, stateText(s), k, args, fuel, stateText(gotEnd), got, stateText(end), o)
	}
	steps, ok := impl.StepsOf(m, s, k, args, fuel)
	if ok != (o.Code == impl.RunOk) || ok && steps != fuel-o.Left || !ok && steps != 0 {
		t.Fatalf("StepsOf(%v, %s, %d, %v, %d) = %d, %t, outcome %v", m, stateText(s), k, args, fuel, steps, ok, o)
	}
}

func sameState(a impl.State, b impl.State) bool {
	return a.Memory == b.Memory && slices.Equal(a.Globals, b.Globals)
}

// checkAsRun: what is told is what the other runner says.
func checkAsRun(t *testing.T, m impl.Module, s impl.State, k int, args []impl.Word, fuel int) impl.Outcome {
	t.Helper()
	end, o := wantRun(m, s, k, args, fuel)
	checkRun(t, m, s, k, args, fuel, end, o)
	return o
}

// stateOf: a module's first state.
func stateOf(t *testing.T, m impl.Module) impl.State {
	t.Helper()
	s, ok := impl.FirstState(m)
	if !ok {
		t.Fatalf("no first state: %v", m)
	}
	return s
}

// checkWords: a func of the usual module, run with fuel 100, comes to this.
func checkWords(t *testing.T, f impl.Func, args string, o impl.Outcome, end string) {
	t.Helper()
	m := moduleOf(f)
	s := stateOf(t, m)
	got, came := impl.RunFunc(m, s, 0, wordsOf(args), 100)
	if came != o || stateText(got) != end {
		t.Errorf("%v, %s: %v, %s, want %v, %s", f, args, came, stateText(got), o, end)
	}
}

// anyWordOf: a good word, often one at an edge.
func anyWordOf(r *rand.Rand, t int) impl.Word {
	w := impl.Word{Type: t, Bits: anyWord(r)}
	switch r.Intn(3) {
	case 0:
		l := edgeWords()
		w.Bits = l[r.Intn(len(l))]
	case 1:
		w.Bits = uint64(r.Intn(8)) - 2
	}
	if t == impl.TypeF32 && r.Intn(2) == 0 {
		w.Bits = uint64(singles.anyFloat(r))
	}
	if t != impl.TypeI64 {
		w.Bits %= 1 << 32
	}
	return w
}

func anyWordsOf(r *rand.Rand, types []int) []impl.Word {
	var l []impl.Word
	for _, t := range types {
		l = append(l, anyWordOf(r, t))
	}
	return l
}

// anyState: one that is good for the module, with any bytes and words.
func anyState(r *rand.Rand, m impl.Module) impl.State {
	s := impl.State{Memory: impl.Memory{Max: m.Most}}
	data := make([]byte, 256*r.Intn(m.Most+1))
	r.Read(data)
	s.Memory.Data = string(data)
	for _, g := range m.Globals {
		s.Globals = append(s.Globals, anyWordOf(r, g.Type))
	}
	return s
}

// livelier: the same module with any numbers as constants and, now and then, offsets.
func livelier(r *rand.Rand, m impl.Module) impl.Module {
	m = copyOf(m)
	for k := range m.Funcs {
		for i, x := range m.Funcs[k].Body {
			switch x.Op {
			case impl.InConst32:
				m.Funcs[k].Body[i].A = int(int32(anyWordOf(r, impl.TypeI32).Bits))
			case impl.InConst64:
				m.Funcs[k].Body[i].A = int(anyWordOf(r, impl.TypeI64).Bits)
			case impl.InConstF:
				m.Funcs[k].Body[i].A = int(anyWordOf(r, impl.TypeF32).Bits)
			case impl.InLoad32, impl.InLoad64, impl.InStore32, impl.InStore64:
				m.Funcs[k].Body[i].A = []int{0, r.Intn(300), r.Intn(10001)}[r.Intn(3)]
			}
		}
	}
	return m
}

// timesWord: this word so many times.
func timesWord(word string, many int) string { return strings.Repeat(word+" ", many) }
