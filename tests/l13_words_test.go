package tests

import (
	wire "encoding/binary"
	"math"
	"math/rand"
	"slices"
	"strings"
	"unicode/utf16"
	"unicode/utf8"

	"loop.example/g00209/impl"
)

// ground: bytes, and how far they are taken; there may be at most so many.
type ground struct {
	bytes []byte
	next  int
	most  int
	code  int
}

// lowerFault: the code with which laying down or taking up ends.
type lowerFault int

// faultOf: the code of what work ends with.
func faultOf(work func()) (code int) {
	defer func() {
		if r := recover(); r != nil {
			code = int(r.(lowerFault))
		}
	}()
	work()
	return impl.LowerOk
}

func (g *ground) roomFor(align int, size int) int {
	at := firstFit(g.next, align)
	if size > g.most-at {
		panic(lowerFault(impl.LowerRoom))
	}
	for len(g.bytes) < at+size {
		g.bytes = append(g.bytes, 0xdd)
	}
	g.next = at + size
	return at
}

func (g *ground) write(at int, n int, size int) {
	copy(g.bytes[at:at+size], wire.LittleEndian.AppendUint64(nil, uint64(n)))
}

func (g *ground) writeText(s string) (int, int) {
	b, count := wantCoded(s, g.code)
	align := 2
	if g.code == impl.CodeUtf8 {
		align = 1
	}
	at := g.roomFor(align, len(b))
	copy(g.bytes[at:], b)
	return at, count
}

// lay: a value that fits, at a place; what it has elsewhere is taken in the order of its parts.
func (g *ground) lay(x typeTree, v valueTree, at int) {
	size, _, offsets := wantRoom(x)
	place, count := 0, len(v.parts)
	switch x.kind {
	case impl.KindString:
		place, count = g.writeText(v.text)
	case impl.KindList:
		each, align, _ := wantRoom(x.parts[0])
		place = g.roomFor(align, each*count)
		for i, p := range v.parts {
			g.lay(x.parts[0], p, place+each*i)
		}
	case impl.KindRecord:
		for i, p := range v.parts {
			g.lay(x.parts[i], p, at+offsets[i])
		}
		return
	case impl.KindVariant, impl.KindResult:
		g.write(at, v.n, 1)
		g.lay(x.parts[v.n], v.parts[0], at+offsets[0])
		return
	case impl.KindOption:
		g.write(at, v.n, 1)
		for _, p := range v.parts {
			g.lay(x.parts[0], p, at+offsets[0])
		}
		return
	default:
		g.write(at, v.n, size)
		return
	}
	g.write(at, place, 4)
	g.write(at+4, count, 4)
}

func (g *ground) layWhole(x typeTree, v valueTree) int {
	size, align, _ := wantRoom(x)
	at := g.roomFor(align, size)
	clear(g.bytes[at : at+size])
	g.lay(x, v, at)
	return at
}

// wantCoded: a text in a code, by the library's own words, and its count.
func wantCoded(s string, code int) (string, int) {
	points, wide := []rune(s), false
	var pairs, latin []byte
	for _, unit := range utf16.Encode(points) {
		pairs = wire.LittleEndian.AppendUint16(pairs, unit)
	}
	for _, p := range points {
		latin = append(latin, byte(p))
		wide = wide || p > 255
	}
	switch {
	case code == impl.CodeUtf8:
		return s, len(s)
	case code == impl.CodeUtf16:
		return string(pairs), len(pairs) / 2
	case wide:
		return string(pairs), len(pairs)/2 + 2147483648
	}
	return string(latin), len(latin)
}

func wantHeap(h impl.Heap) bool {
	return isGood(h.Memory) && h.Next >= 0 && h.Next <= len(h.Memory.Data)
}

// wantKept: what is told of a heap beside a refusal.
func wantKept(h impl.Heap) impl.Heap {
	if !wantHeap(h) {
		return impl.Heap{}
	}
	return h
}

// onGround: a good heap as it is when the work is done, and the code; as it was, where it ends otherwise.
func onGround(h impl.Heap, code int, work func(g *ground)) (impl.Heap, int) {
	g := &ground{bytes: []byte(h.Memory.Data), next: h.Next, most: len(h.Memory.Data), code: code}
	if fault := faultOf(func() { work(g) }); fault != impl.LowerOk {
		return h, fault
	}
	return impl.Heap{Memory: impl.Memory{Max: h.Memory.Max, Data: string(g.bytes)}, Next: g.next}, impl.LowerOk
}

func wantTaking(h impl.Heap, align int, size int) (impl.Heap, int, int) {
	if !wantHeap(h) || !slices.Contains([]int{1, 2, 4, 8}, align) || size < 0 {
		return wantKept(h), 0, impl.LowerBad
	}
	at := 0
	h, code := onGround(h, 0, func(g *ground) { at = g.roomFor(align, size) })
	return h, at, code
}

func isCode(code int) bool { return slices.Contains(threeCodes, code) }

func wantLowerText(h impl.Heap, s string, code int) (impl.Heap, int, int, int) {
	if !wantHeap(h) || len(s) > 200 || !utf8.ValidString(s) || !isCode(code) {
		return wantKept(h), 0, 0, impl.LowerBad
	}
	at, count := 0, 0
	h, fault := onGround(h, code, func(g *ground) { at, count = g.writeText(s) })
	return h, at, count, fault
}

// isLowered: whether it fits, and may lie in a memory.
func isLowered(x typeTree, l []impl.Value, code int) (valueTree, bool) {
	v, is := wantValues(l)
	return v, is && wantTree(x) && !x.has(impl.KindOwn, impl.KindBorrow) && len(l) <= 100 && wantFits(x, v) && isCode(code)
}

func wantLower(h impl.Heap, x typeTree, l []impl.Value, code int) (impl.Heap, int, int) {
	v, is := isLowered(x, l, code)
	if !is || !wantHeap(h) {
		return wantKept(h), 0, impl.LowerBad
	}
	at := 0
	h, fault := onGround(h, code, func(g *ground) { at = g.layWhole(x, v) })
	if fault != impl.LowerOk {
		at = 0
	}
	return h, at, fault
}

func wantUsed(x typeTree, l []impl.Value, code int) (int, bool) {
	v, is := isLowered(x, l, code)
	if !is {
		return 0, false
	}
	g := &ground{most: math.MaxInt, code: code}
	g.layWhole(x, v)
	return g.next, true
}

// upTaker: takes values up of bytes.
type upTaker struct {
	data  string
	code  int
	nodes []impl.Value
}

// mustLie: gives up where the bytes are not all there.
func (k *upTaker) mustLie(at int, align int, size int) {
	if at%align != 0 || at > len(k.data) || size > len(k.data[at:]) {
		panic(lowerFault(impl.LowerPlace))
	}
}

func mustBeOfForm(is bool) {
	if !is {
		panic(lowerFault(impl.LowerForm))
	}
}

func (k *upTaker) number(at int, size int) int {
	var b [8]byte
	copy(b[:], k.data[at:at+size])
	return int(wire.LittleEndian.Uint64(b[:]))
}

func (k *upTaker) text(at int, count int) string {
	var s string
	switch wide := count&(1<<31) != 0; {
	case k.code == impl.CodeUtf8:
		k.mustLie(at, 1, count)
		s = k.data[at : at+count]
		mustBeOfForm(utf8.ValidString(s))
	case k.code == impl.CodeLatin && !wide:
		k.mustLie(at, 2, count)
		for i := range count {
			s += string(rune(k.data[at+i]))
		}
	default:
		if k.code == impl.CodeLatin {
			count &= 1<<31 - 1
		}
		k.mustLie(at, 2, 2*count)
		var units []uint16
		for i := range count {
			units = append(units, uint16(k.number(at+2*i, 2)))
		}
		// Halves that have no other half don't come back.
		points := utf16.Decode(units)
		mustBeOfForm(slices.Equal(utf16.Encode(points), units))
		s = string(points)
		latin := strings.IndexFunc(s, func(p rune) bool { return p > 255 }) == -1
		mustBeOfForm(k.code == impl.CodeUtf16 || !latin)
	}
	mustBeOfForm(len(s) <= 200)
	return s
}

func (k *upTaker) value(x typeTree, at int, up int) {
	if len(k.nodes) == 100 {
		panic(lowerFault(impl.LowerSize))
	}
	own := len(k.nodes)
	k.nodes = append(k.nodes, impl.Value{Up: up})
	size, _, offsets := wantRoom(x)
	switch x.kind {
	case impl.KindString:
		k.nodes[own].Text = k.text(k.number(at, 4), k.number(at+4, 4))
	case impl.KindList:
		place, count := k.number(at, 4), k.number(at+4, 4)
		each, align, _ := wantRoom(x.parts[0])
		k.mustLie(place, align, each*count)
		for i := range count {
			k.value(x.parts[0], place+each*i, own)
		}
	case impl.KindRecord:
		for i, p := range x.parts {
			k.value(p, at+offsets[i], own)
		}
	case impl.KindVariant, impl.KindResult, impl.KindOption:
		n := k.number(at, 1)
		mustBeOfForm(wantNumber(x, n))
		k.nodes[own].N = n
		switch {
		case x.kind != impl.KindOption:
			k.value(x.parts[n], at+offsets[0], own)
		case n == 1:
			k.value(x.parts[0], at+offsets[0], own)
		}
	default:
		k.nodes[own].N = wantMeant(x, k.number(at, size))
	}
}

// wantMeant: what bits mean, as a number of a type.
func wantMeant(x typeTree, n int) int {
	switch kindNames[x.kind] {
	case "bool":
		return min(n, 1)
	case "s8":
		return (n ^ 128) - 128
	case "s16":
		return (n ^ 32768) - 32768
	case "s32":
		return (n ^ 2147483648) - 2147483648
	case "flags":
		return n % (1 << x.n)
	case "f32":
		if f := math.Float32frombits(uint32(n)); f != f {
			return 0x7fc00000
		}
	}
	mustBeOfForm(wantNumber(x, n))
	return n
}

func wantLiftText(m impl.Memory, at int, count int, code int) (string, int) {
	if !isGood(m) || at>>32 != 0 || count>>32 != 0 || !isCode(code) {
		return "", impl.LowerBad
	}
	s, k := "", &upTaker{data: m.Data, code: code}
	fault := faultOf(func() { s = k.text(at, count) })
	return s, fault
}

func wantLift(m impl.Memory, x typeTree, at int, code int) ([]impl.Value, int) {
	if !isGood(m) || !wantTree(x) || x.has(impl.KindOwn, impl.KindBorrow) || at>>32 != 0 || !isCode(code) {
		return nil, impl.LowerBad
	}
	size, align, _ := wantRoom(x)
	k := &upTaker{data: m.Data, code: code}
	fault := faultOf(func() {
		k.mustLie(at, align, size)
		k.value(x, at, -1)
	})
	if fault != impl.LowerOk {
		return nil, fault
	}
	return k.nodes, fault
}

// heapOf: a heap with something in all its bytes.
func heapOf(pages int, next int) impl.Heap {
	return impl.Heap{Memory: memoryOf(pages, 8), Next: next}
}

// filledHeap: with the same byte everywhere.
func filledHeap(pages int, b byte, next int) impl.Heap {
	return impl.Heap{Memory: impl.Memory{Max: pages, Data: strings.Repeat(string([]byte{b}), 256*pages)}, Next: next}
}

func anyHeap(r *rand.Rand) impl.Heap {
	m := anyMemory(r)
	return impl.Heap{Memory: m, Next: []int{0, r.Intn(len(m.Data) + 1), r.Intn(min(len(m.Data), 20) + 1), len(m.Data) - r.Intn(min(len(m.Data), 20)+1)}[r.Intn(4)]}
}

func badHeaps() []impl.Heap {
	l := []impl.Heap{heapOf(1, -1), heapOf(1, 257), heapOf(0, 1), heapOf(8, 2049), heapOf(1, math.MaxInt), heapOf(1, math.MinInt), {Next: 1}, {Next: -1}}
	for _, m := range badMemories() {
		l = append(l, impl.Heap{Memory: m}, impl.Heap{Memory: m, Next: 1}, impl.Heap{Memory: m, Next: -1})
	}
	return l
}

// handless: the type with numbers in the place of handles.
func handless(x typeTree) typeTree {
	switch x.kind {
	case impl.KindOwn:
		return tree("u32")
	case impl.KindBorrow:
		return tree("char")
	}
	x.parts = slices.Clone(x.parts)
	for i, p := range x.parts {
		x.parts[i] = handless(p)
	}
	return x
}

// heapText: a heap, in so few words that it can be read.
func heapText(h impl.Heap) string {
	return short(struct {
		max, next, bytes int
		data             string
	}{h.Memory.Max, h.Next, len(h.Memory.Data), h.Memory.Data[:min(len(h.Memory.Data), 100)]})
}
