package tests

import (
	"bytes"
	codes "encoding/binary"
	"math/rand"
	"slices"
	"strings"

	"loop.example/g00209/impl"
)

const magic = "\x00\x71\x70\x6d"

// moduleWriter writes the bytes of modules, whether they have shape or not. One of its numbers (all of them, where which
// is -1) is longer by that many bytes than it need be; tooLong tells that this is more than such a number may have.
type moduleWriter struct {
	which   int
	by      int
	met     int
	tooLong bool
}

// longer: the bytes of a number of so many bits, of which this may be the one that is to be longer.
func (w *moduleWriter) longer(b []byte, bits int, sign byte) []byte {
	if w.which != -1 && w.which != w.met {
		w.met++
		return b
	}
	w.met++
	for range w.by {
		b[len(b)-1] |= 128
		b = append(b, sign)
	}
	w.tooLong = w.tooLong || len(b) > (bits+6)/7
	return b
}

func (w *moduleWriter) number(n uint64, bits int) string {
	return string(w.longer(codes.AppendUvarint(nil, n), bits, 0))
}

func (w *moduleWriter) ins(x impl.Ins) string {
	f, _ := formOf(x.Op)
	b := wantBytes(x)
	switch f.bytes {
	case "uleb":
		return string(b[:1]) + string(w.longer(b[1:], 32, 0))
	case "sleb":
		bits, sign := 32, byte(0)
		if x.Op == impl.InConst64 {
			bits = 64
		}
		if x.A < 0 {
			sign = 127
		}
		return string(b[:1]) + string(w.longer(b[1:], bits, sign))
	}
	return string(b)
}

func (w *moduleWriter) types(l []int) string {
	s := w.number(uint64(len(l)), 32)
	for _, t := range l {
		s += string([]byte{byte(t)})
	}
	return s
}

func (w *moduleWriter) fun(f impl.Func) string {
	s := w.types(f.Params) + string([]byte{byte(f.Result)}) + w.types(f.Locals)
	code := ""
	for _, x := range f.Body {
		code += w.ins(x)
	}
	return s + w.number(uint64(len(code)), 32) + code
}

func (w *moduleWriter) section(id int, body string) string {
	return string([]byte{byte(id)}) + w.number(uint64(len(body)), 32) + body
}

func (w *moduleWriter) funcs(l []impl.Func) string {
	s := w.number(uint64(len(l)), 32)
	for _, f := range l {
		s += w.fun(f)
	}
	return s
}

func (w *moduleWriter) globals(l []impl.Global) string {
	s := w.number(uint64(len(l)), 32)
	for _, g := range l {
		fixed := "\x00"
		if g.Fixed {
			fixed = "\x01"
		}
		s += string([]byte{byte(g.Type)}) + fixed + w.number(g.Bits, 64)
	}
	return s
}

func (w *moduleWriter) module(m impl.Module) string {
	s := magic
	if len(m.Funcs) > 0 {
		s += w.section(1, w.funcs(m.Funcs))
	}
	if m.Memory {
		s += w.section(5, w.number(uint64(m.Pages), 32)+w.number(uint64(m.Most), 32))
	}
	if len(m.Globals) > 0 {
		s += w.section(6, w.globals(m.Globals))
	}
	if m.Start != -1 {
		s += w.section(8, w.number(uint64(m.Start), 32))
	}
	return s
}

// wantModule and wantFunc: the bytes, with every number as short as can be.
func wantModule(m impl.Module) string { return new(moduleWriter).module(m) }

func wantFunc(f impl.Func) string { return new(moduleWriter).fun(f) }

// fitsBytes: whether a module with shape goes into sections, as the document bounds them.
func fitsBytes(m impl.Module) bool {
	for _, f := range m.Funcs {
		if len(wantFunc(f)) > 900 {
			return false
		}
	}
	return len(new(moduleWriter).funcs(m.Funcs)) <= 1000
}

// moduleReader reads bytes as the document words them, byte by byte, and panics at the first one that is wrong.
type moduleReader struct{ from *bytes.Reader }

func (r moduleReader) oneByte() int {
	b, err := r.from.ReadByte()
	if err != nil {
		panic(err)
	}
	return int(b)
}

// number: bits groups of seven by a sum of any size, in at most as many bytes as such a number may have.
func (r moduleReader) number(bits int) uint64 {
	s := ""
	for s == "" || s[len(s)-1] >= 128 {
		s += string([]byte{byte(r.oneByte())})
	}
	n, took := wantUleb(s, bits)
	if took == 0 {
		panic("no number of " + s)
	}
	return n
}

func (r moduleReader) text(most int) string {
	n := r.number(32)
	if n > uint64(most) {
		panic("too long")
	}
	s := ""
	for range n {
		s += string([]byte{byte(r.oneByte())})
	}
	return s
}

func (r moduleReader) types() []int {
	var l []int
	for range min(r.number(32), 30) {
		l = append(l, r.oneByte())
	}
	return l
}

// fun: a body of 200 instructions has at most 11 bytes of each.
func (r moduleReader) fun() impl.Func {
	f := impl.Func{Params: r.types(), Result: r.oneByte(), Locals: r.types()}
	body, ok := readAll(r.text(2200))
	f.Body = body
	if !ok || !impl.GoodShape(impl.Module{Start: -1, Funcs: []impl.Func{f}}) || len(wantFunc(f)) > 900 {
		panic("no func")
	}
	return f
}

func (r moduleReader) global() impl.Global {
	g := impl.Global{Type: r.oneByte(), Fixed: r.oneByte() != 0}
	r.from.UnreadByte()
	if r.oneByte() > 1 {
		panic("neither 0 nor 1")
	}
	g.Bits = r.number(64)
	return g
}

// some: how many there are, at least one; what goes beyond all limits is cut, and has no shape all the same.
func (r moduleReader) some() uint64 {
	n := r.number(32)
	if n == 0 {
		panic("a section that tells nothing")
	}
	return min(n, 30)
}

func (r moduleReader) section(id int, m *impl.Module) {
	switch id {
	case 1:
		for range r.some() {
			m.Funcs = append(m.Funcs, r.fun())
		}
	case 5:
		m.Memory, m.Pages, m.Most = true, int(r.number(32)), int(r.number(32))
	case 6:
		for range r.some() {
			m.Globals = append(m.Globals, r.global())
		}
	case 8:
		m.Start = int(r.number(32))
	default:
		panic("no such section")
	}
	if r.from.Len() > 0 {
		panic("bytes left over")
	}
}

// wantRead: the module that stands there and the code of ReadModule.
func wantRead(s string) (m impl.Module, code int) {
	if !strings.HasPrefix(s, magic) {
		return impl.Module{}, impl.LoadMagic
	}
	defer func() {
		if recover() != nil {
			m, code = impl.Module{}, impl.LoadForm
		}
	}()
	m.Start = -1
	r := moduleReader{bytes.NewReader([]byte(s[4:]))}
	for before := -1; r.from.Len() > 0; {
		id := r.oneByte()
		if id <= before {
			panic("not rising")
		}
		moduleReader{bytes.NewReader([]byte(r.text(1000)))}.section(id, &m)
		before = id
	}
	if !impl.GoodShape(m) {
		panic("no shape")
	}
	return m, impl.LoadOk
}

// wantLoaded: likewise of LoadModule; which code is well typed is asked of the reader of chapter 7's tests.
func wantLoaded(s string) (impl.Module, int) {
	m, code := wantRead(s)
	for k := range m.Funcs {
		if fault, _, _ := wantChecked(m, k); fault != impl.CheckOk {
			return impl.Module{}, impl.LoadCheck
		}
	}
	return m, code
}

// wantTaken: the func at the front and how many bytes it takes.
func wantTaken(s string) (f impl.Func, took int) {
	defer func() {
		if recover() != nil {
			f, took = impl.Func{}, 0
		}
	}()
	r := moduleReader{bytes.NewReader([]byte(s))}
	f = r.fun()
	return f, len(s) - r.from.Len()
}

func equalFuncs(a impl.Func, b impl.Func) bool {
	return a.Result == b.Result && slices.Equal(a.Params, b.Params) && slices.Equal(a.Locals, b.Locals) && slices.Equal(a.Body, b.Body)
}

func equalModules(a impl.Module, b impl.Module) bool {
	return slices.EqualFunc(a.Funcs, b.Funcs, equalFuncs) && slices.Equal(a.Globals, b.Globals) &&
		a.Memory == b.Memory && a.Pages == b.Pages && a.Most == b.Most && a.Start == b.Start
}

// anyShaped: a module with shape, of few and short funcs mostly, well typed or not; any of its parts may lack.
func anyShaped(r *rand.Rand) impl.Module {
	m := anyTyped(r)
	if r.Intn(3) > 0 {
		m.Funcs = m.Funcs[:r.Intn(min(len(m.Funcs), 4)+1)]
	}
	if r.Intn(3) == 0 {
		m.Globals = nil
	}
	for i, g := range m.Globals {
		if g.Type == impl.TypeI64 {
			m.Globals[i].Bits = anyWord(r)
		}
	}
	for k, f := range m.Funcs {
		if r.Intn(2) == 0 {
			m.Funcs[k].Body = slices.Concat(anyGoodCode(r, f.Body), f.Body)
		}
		if len(f.Params) == 0 && f.Result == impl.TypeNone && r.Intn(2) == 0 {
			m.Start = k
		}
	}
	return m
}

// anyGoodCode: some instructions that neither begin nor end a block, now and then as many as there is room for ahead of a
// body.
func anyGoodCode(r *rand.Rand, body []impl.Ins) []impl.Ins {
	room := impl.MaxBody - len(body)
	if r.Intn(20) > 0 {
		room = min(room, r.Intn(5))
	}
	var l []impl.Ins
	for range room {
		x := anyIns(r)
		if slices.Contains([]int{impl.InBlock, impl.InLoop, impl.InIf, impl.InElse, impl.InEnd}, x.Op) {
			x = impl.Ins{Op: impl.InDrop}
		}
		l = append(l, x)
	}
	return l
}
