package tests

import (
	"fmt"
	"math"
	"math/rand"
	"slices"
	"strings"

	"loop.example/g00209/impl"
)

// wantFew: whether a good type has few enough words.
func wantFew(x typeTree) bool { return len(wantFlat(x)) <= 16 }

// mayGo: letters of a word's type and of a place that it may be in.
var mayGo = []string{"ii", "II", "ff", "iI", "fI", "fi"}

// wantGoodWord: one of the three types, without bits that it has no room for.
func wantGoodWord(w impl.Word) bool {
	return w.Type == impl.TypeI64 || (w.Type == impl.TypeI32 || w.Type == impl.TypeF32) && w.Bits <= math.MaxUint32
}

func wantWordAs(w impl.Word, want int) (impl.Word, bool) {
	if !wantGoodWord(w) || letterOfType(want) == "" || !slices.Contains(mayGo, letterOfType(w.Type)+letterOfType(want)) {
		return impl.Word{}, false
	}
	return impl.Word{Type: want, Bits: w.Bits}, true
}

func wantWordFrom(w impl.Word, want int) (impl.Word, bool) {
	if !wantGoodWord(w) || letterOfType(want) == "" || !slices.Contains(mayGo, letterOfType(want)+letterOfType(w.Type)) {
		return impl.Word{}, false
	}
	if want != impl.TypeI64 {
		w.Bits &= math.MaxUint32
	}
	return impl.Word{Type: want, Bits: w.Bits}, true
}

// rowOf: the bits of a value's words. No place changes them, so that the types are asked of the whole alone.
func (g *ground) rowOf(x typeTree, v valueTree) []uint64 {
	row := make([]uint64, 0, 16)
	switch x.kind {
	case impl.KindString:
		at, count := g.writeText(v.text)
		return []uint64{uint64(at), uint64(count)}
	case impl.KindList:
		each, align, _ := wantRoom(x.parts[0])
		at := g.roomFor(align, each*len(v.parts))
		for i, p := range v.parts {
			g.lay(x.parts[0], p, at+each*i)
		}
		return []uint64{uint64(at), uint64(len(v.parts))}
	case impl.KindRecord:
		for i, p := range v.parts {
			row = append(row, g.rowOf(x.parts[i], p)...)
		}
		return row
	case impl.KindVariant, impl.KindResult, impl.KindOption:
		row = append(row, uint64(v.n))
		for _, p := range v.parts {
			which := v.n
			if x.kind == impl.KindOption {
				which = 0
			}
			row = append(row, g.rowOf(x.parts[which], p)...)
		}
		for len(row) < len(wantFlat(x)) {
			row = append(row, 0)
		}
		return row
	case impl.KindU64, impl.KindS64:
		return []uint64{uint64(v.n)}
	}
	return []uint64{uint64(v.n) & math.MaxUint32}
}

func wantLowerFlat(h impl.Heap, x typeTree, l []impl.Value, code int) (impl.Heap, []impl.Word, int) {
	v, is := isLowered(x, l, code)
	if !is || !wantFew(x) || !wantHeap(h) {
		return wantKept(h), nil, impl.LowerBad
	}
	var row []uint64
	h, fault := onGround(h, code, func(g *ground) { row = g.rowOf(x, v) })
	if fault != impl.LowerOk {
		return h, nil, fault
	}
	return h, wordsIn(x, row), fault
}

// wordsIn: words of the type's types, with these bits.
func wordsIn(x typeTree, row []uint64) []impl.Word {
	var l []impl.Word
	for i, t := range typesOfLetters(wantFlat(x)) {
		l = append(l, impl.Word{Type: t, Bits: row[i]})
	}
	return l
}

// ofRow: takes up a value of its words' bits; those of a type that is not told in 64 bits are the lowest 32.
func (k *upTaker) ofRow(x typeTree, row []uint64, up int) {
	if len(k.nodes) == 100 {
		panic(lowerFault(impl.LowerSize))
	}
	own := len(k.nodes)
	k.nodes = append(k.nodes, impl.Value{Up: up})
	low := func(i int) int { return int(row[i] % (1 << 32)) }
	switch x.kind {
	case impl.KindString:
		k.nodes[own].Text = k.text(low(0), low(1))
	case impl.KindList:
		each, align, _ := wantRoom(x.parts[0])
		k.mustLie(low(0), align, each*low(1))
		for i := range low(1) {
			k.value(x.parts[0], low(0)+each*i, own)
		}
	case impl.KindRecord:
		for _, p := range x.parts {
			k.ofRow(p, row, own)
			row = row[len(wantFlat(p)):]
		}
	case impl.KindVariant, impl.KindResult:
		mustBeOfForm(wantNumber(x, low(0)))
		k.nodes[own].N = low(0)
		k.ofRow(x.parts[low(0)], row[1:], own)
	case impl.KindOption:
		mustBeOfForm(low(0) < 2)
		k.nodes[own].N = low(0)
		if low(0) == 1 {
			k.ofRow(x.parts[0], row[1:], own)
		}
	case impl.KindU64, impl.KindS64:
		k.nodes[own].N = int(row[0])
	case impl.KindU8, impl.KindS8:
		k.nodes[own].N = wantMeant(x, low(0)%256)
	case impl.KindU16, impl.KindS16:
		k.nodes[own].N = wantMeant(x, low(0)%65536)
	default:
		k.nodes[own].N = wantMeant(x, low(0))
	}
}

// wantOfTypes: whether these are good words, of just the types that these letters are.
func wantOfTypes(l []impl.Word, letters string) bool {
	told := ""
	for _, w := range l {
		if !wantGoodWord(w) {
			return false
		}
		told += letterOfType(w.Type)
	}
	return told == letters
}

func wantLiftFlat(m impl.Memory, x typeTree, l []impl.Word, code int) ([]impl.Value, int) {
	if !isGood(m) || !wantTree(x) || x.has(impl.KindOwn, impl.KindBorrow) || !wantFew(x) || len(l) > 16 || !wantOfTypes(l, wantFlat(x)) || !isCode(code) {
		return nil, impl.LowerBad
	}
	var row []uint64
	for _, w := range l {
		row = append(row, w.Bits)
	}
	k := &upTaker{data: m.Data, code: code}
	if fault := faultOf(func() { k.ofRow(x, row, -1) }); fault != impl.LowerOk {
		return nil, fault
	}
	return k.nodes, impl.LowerOk
}

// wordsText: as wordsOf reads them; what is no good word by its numbers.
func wordsText(l []impl.Word) string {
	var told []string
	for _, w := range l {
		if letter := letterOfType(w.Type); wantGoodWord(w) {
			told = append(told, fmt.Sprintf("%s:%d", letter, int(w.Bits)))
		} else {
			told = append(told, fmt.Sprintf("%d:%x", w.Type, w.Bits))
		}
	}
	if len(told) > 40 {
		told = append(told[:40], "..")
	}
	return strings.Join(told, " ")
}

// anyFew: a type without handles that has few enough words.
func anyFew(r *rand.Rand, most int, deep int) typeTree {
	for {
		if x := handless(anyTree(r, 1+r.Intn(most), 1+r.Intn(deep))); wantFew(x) {
			return x
		}
	}
}

// spoiltWords: one thing in them changed, mostly by little.
func spoiltWords(r *rand.Rand, l []impl.Word) []impl.Word {
	l = slices.Clone(l)
	if len(l) == 0 {
		return append(l, impl.Word{Type: impl.TypeI32})
	}
	w := &l[r.Intn(len(l))]
	switch r.Intn(16) {
	case 0:
		return l[:len(l)-1]
	case 1:
		return append(l, l[r.Intn(len(l))])
	case 2:
		w.Type = []int{impl.TypeI32, impl.TypeI64, impl.TypeF32, impl.TypeNone, 0, anyPlace(r)}[r.Intn(6)]
	case 3:
		w.Bits = anyWord(r)
	case 4:
		w.Bits += uint64(r.Intn(2*256)) << 32
	case 5, 6, 7:
		w.Bits = anyWordOf(r, w.Type).Bits
	case 8, 9, 10:
		w.Bits = uint64(r.Intn(300)) << (8 * r.Intn(3))
	default:
		// Bits that do not fit the type are cut again.
		w.Bits += uint64(r.Intn(9)) - 4
		if w.Type != impl.TypeI64 {
			w.Bits %= 1 << 32
		}
	}
	return l
}
