package tests

import (
	"fmt"
	"math"
	"math/rand"
	"regexp"
	"slices"
	"strings"

	"loop.example/g00209/impl"
)

// partOf: a good part that may leave.
func partOf(h impl.Heap, code int) impl.Part {
	return impl.Part{Name: "part-1", Heap: h, Code: code, Leave: true}
}

var partNames = regexp.MustCompile(`\A[0-9a-z-]{1,20}\z`)

func wantPart(p impl.Part) bool {
	return partNames.MatchString(p.Name) && wantHeap(p.Heap) && isCode(p.Code)
}

// keptPart: what is told of a part beside a fault.
func keptPart(p impl.Part) impl.Part {
	if !wantPart(p) {
		return impl.Part{}
	}
	return p
}

// wantPassable: whether it is a good type without handles.
func wantPassable(x typeTree) bool {
	return wantTree(x) && !x.has(impl.KindOwn, impl.KindBorrow)
}

// treePassed: the type without handles that has this text.
func treePassed(s string) (typeTree, bool) {
	x, is := treeOfText(s)
	return x, is && wantPassable(x)
}

func wantSignature(s impl.Signature) bool {
	texts := slices.Clone(s.Params)
	if s.Result != "" {
		texts = append(texts, s.Result)
	}
	none := func(text string) bool {
		_, is := treePassed(text)
		return !is
	}
	return len(s.Params) < 7 && !slices.ContainsFunc(texts, none)
}

// wantPassed: what passing from a place tells, by what the tests themselves take up and lay down.
func wantPassed(from impl.Part, to impl.Part, types []impl.TypeNode, at int) (impl.Part, int, int) {
	x, is := treeOfNodes(types)
	if !wantPart(from) || !wantPart(to) || !is || !wantPassable(x) || at>>32 != 0 {
		return keptPart(to), 0, impl.PassBad
	}
	l, fault := wantLift(from.Heap.Memory, x, at, from.Code)
	if fault != impl.LowerOk {
		return to, 0, impl.PassLift
	}
	h, place, fault := wantLower(to.Heap, x, l, to.Code)
	if fault != impl.LowerOk {
		return to, 0, impl.PassLower
	}
	to.Heap = h
	return to, place, impl.PassOk
}

// wantWordsPassed: the same of words. They do not fit a type that has too many, whatever they are.
func wantWordsPassed(from impl.Part, to impl.Part, types []impl.TypeNode, words []impl.Word) (impl.Part, []impl.Word, int) {
	x, is := treeOfNodes(types)
	if !wantPart(from) || !wantPart(to) || !is || !wantPassable(x) {
		return keptPart(to), nil, impl.PassBad
	}
	l, fault := wantLiftFlat(from.Heap.Memory, x, words, from.Code)
	if fault != impl.LowerOk {
		return to, nil, map[bool]int{true: impl.PassBad, false: impl.PassLift}[fault == impl.LowerBad]
	}
	h, row, fault := wantLowerFlat(to.Heap, x, l, to.Code)
	if fault != impl.LowerOk {
		return to, nil, impl.PassLower
	}
	to.Heap = h
	return to, row, impl.PassOk
}

func wantEntered(p impl.Part) (impl.Part, int) {
	if !wantPart(p) {
		return impl.Part{}, impl.PassBad
	}
	if p.Inside {
		return p, impl.PassGuard
	}
	p.Inside, p.Leave = true, false
	return p, impl.PassOk
}

func wantExited(p impl.Part) (impl.Part, int) {
	if !wantPart(p) {
		return impl.Part{}, impl.PassBad
	}
	if !p.Inside {
		return p, impl.PassGuard
	}
	p.Inside, p.Leave = false, true
	return p, impl.PassOk
}

// wantThrough: all arguments, then who may call, then each param where the ones ahead of it have been laid.
func wantThrough(from impl.Part, to impl.Part, s impl.Signature, args []int) (impl.Part, []int, int) {
	none := func(at int) bool { return at>>32 != 0 }
	if !wantPart(from) || !wantPart(to) || !wantSignature(s) || len(args) != len(s.Params) || slices.ContainsFunc(args, none) {
		return keptPart(to), nil, impl.PassBad
	}
	if !from.Leave || to.Inside {
		return to, nil, impl.PassGuard
	}
	var places []int
	own := to
	for i, text := range s.Params {
		x, _ := treePassed(text)
		next, place, code := wantPassed(from, own, x.nodes(), args[i])
		if code != impl.PassOk {
			return to, nil, code
		}
		own, places = next, append(places, place)
	}
	own.Inside, own.Leave = true, false
	return own, places, impl.PassOk
}

func wantSubtype(a impl.Signature, b impl.Signature) (bool, bool) {
	if !wantSignature(a) || !wantSignature(b) {
		return false, false
	}
	told := func(s impl.Signature) string { return strings.Join(s.Params, " ") + " -> " + s.Result }
	return told(a) == told(b), true
}

// signatureOf: params by blanks.
func signatureOf(params string, result string) impl.Signature {
	return impl.Signature{Params: strings.Fields(params), Result: result}
}

func partText(p impl.Part) string {
	return fmt.Sprintf("%.40q in code %d, inside %t, leave %t, %s", p.Name, p.Code, p.Inside, p.Leave, heapText(p.Heap))
}

// badParts: a good part in which one thing is not as it must be.
func badParts() []impl.Part {
	good := partOf(heapOf(1, 5), impl.CodeUtf8)
	var l []impl.Part
	for _, name := range []string{"", text(21), "A", "part_1", "part 1", "part.1", "part-1\n", "\npart-1", "p\x00", "\xff", "p\u00e4", "`", "{", "/", ":", ",", ".", strings.Repeat("a", 1<<16)} {
		p := good
		p.Name = name
		l = append(l, p)
	}
	for _, h := range badHeaps() {
		p := good
		p.Heap = h
		l = append(l, p)
	}
	for _, code := range []int{math.MinInt, -1, 0, 4, 5, 1<<32 + 1, math.MaxInt} {
		p := good
		p.Code = code
		l = append(l, p)
	}
	return l
}

// laidIn: the part with a value in it, as the tests themselves lay it, and the place.
func laidIn(p impl.Part, x typeTree, l []impl.Value) (impl.Part, int, bool) {
	h, at, fault := wantLower(p.Heap, x, l, p.Code)
	p.Heap = h
	return p, at, fault == impl.LowerOk
}

// wordedIn: the part with what a value's words need in it, and the words.
func wordedIn(p impl.Part, x typeTree, l []impl.Value) (impl.Part, []impl.Word, bool) {
	h, row, fault := wantLowerFlat(p.Heap, x, l, p.Code)
	p.Heap = h
	return p, row, fault == impl.LowerOk
}

// anyPart: a good one; often with few bytes left.
func anyPart(r *rand.Rand) impl.Part {
	letters := "abcxyz0189-"
	name := make([]byte, 1+r.Intn(20))
	for i := range name {
		name[i] = letters[r.Intn(len(letters))]
	}
	return impl.Part{Name: string(name), Heap: anyHeap(r), Code: threeCodes[r.Intn(3)], Inside: r.Intn(4) == 0, Leave: r.Intn(4) > 0}
}

// roomyPart: one with many bytes left, that may leave and may be entered.
func roomyPart(r *rand.Rand) impl.Part {
	p := anyPart(r)
	p.Heap, p.Inside, p.Leave = heapOf(8, r.Intn(40)), false, true
	return p
}

// anyPassable: a type without handles, of any depth.
func anyPassable(r *rand.Rand, most int) typeTree {
	return handless(anyTree(r, 1+r.Intn(most), 1+r.Intn(8)))
}

// laidFor: so many params laid in a part, if there is room: their types, values and places.
type laidFor struct {
	from   impl.Part
	types  []typeTree
	values [][]impl.Value
	sign   impl.Signature
	args   []int
}

func anyLaidFor(r *rand.Rand, from impl.Part, many int) laidFor {
	c := laidFor{from: from}
	for range many {
		x := anyPassable(r, 8)
		l := anyValue(r, x, 10).nodes()
		p, at, ok := laidIn(c.from, x, l)
		if !ok {
			at = r.Intn(300)
		}
		c.from = p
		c.types, c.values, c.args = append(c.types, x), append(c.values, l), append(c.args, at)
		c.sign.Params = append(c.sign.Params, x.text())
	}
	if r.Intn(2) == 0 {
		c.sign.Result = anyPassable(r, 8).text()
	}
	return c
}
