package tests

import (
	"math"
	"math/rand"
	"slices"
	"strconv"
	"testing"

	"loop.example/g00209/impl"
)

// checkWhether: good or not, in nodes and as a text, also as a part of others.
func checkWhether(t *testing.T, x typeTree, good bool) {
	t.Helper()
	for _, outer := range []typeTree{x, tree("option", x), tree("record", tree("u8"), x), tree("record", x, tree("u8")), tree("result", tree("f32"), x)} {
		if outer.deep() > 8 || outer.count() > 40 {
			continue
		}
		if got := impl.GoodType(outer.nodes()); got != good {
			t.Errorf("GoodType(%v) = %t", outer.nodes(), got)
		}
		if _, ok := impl.ReadType(outer.text()); ok != good {
			t.Errorf("ReadType(%s): %t", outer.text(), ok)
		}
		checkTree(t, outer)
	}
}

// Promise 11: no nodes, one, as many as there may be, and one more.
func TestTypesOfAllSizes(t *testing.T) {
	checkNodes(t, nil)
	checkNodes(t, []impl.TypeNode{})
	checkTypeText(t, "")
	five := tree("record", alike(tree("u8"), 4)...)
	full := tree("record", append(alike(five, 7), tree("record", alike(tree("u8"), 3)...))...)
	more := tree("record", alike(five, 8)...)
	if full.count() != impl.MaxTypeNodes || more.count() != impl.MaxTypeNodes+1 {
		t.Fatal("meant to be otherwise:", full.count(), more.count())
	}
	for _, x := range []typeTree{tree("u8"), full, more} {
		if good := impl.GoodType(x.nodes()); good != (x.count() <= 40) {
			t.Errorf("%d nodes: good %t", x.count(), good)
		}
		checkTree(t, x)
	}
	// The longest texts: nothing that is good is too long to be read.
	long := tree("variant", alike(counted("enum", 300), 4)...)
	checkTree(t, tree("variant", append(alike(long, 7), tree("variant", alike(counted("enum", 300), 3)...))...))
	checkTree(t, tree("variant", append(alike(long, 7), tree("variant", alike(counted("flags", 32), 3)...))...))
	checkTree(t, tree("variant", append(alike(long, 7), tree("variant", alike(counted("borrow", 9), 3)...))...))
	checkTree(t, tree("variant", alike(long, 8)...))
	for n := range 60 {
		var l []impl.TypeNode
		for i := range n {
			l = append(l, impl.TypeNode{Kind: impl.KindU8, Up: -1 + min(i, 1)})
		}
		checkNodes(t, l)
		if n > 0 {
			l[0].Kind = impl.KindRecord
			checkNodes(t, l)
		}
	}
}

// Promise 11: as deep as it may be, and one deeper, by each kind that has parts.
func TestTypesOfAllDepths(t *testing.T) {
	for deep := 1; deep <= 12; deep++ {
		for _, name := range []string{"list", "option", "record", "variant"} {
			x := within(name, deep-1, tree("u64"))
			if good := impl.GoodType(x.nodes()); good != (deep <= impl.MaxTypeDeep) {
				t.Errorf("%s, %d deep: good %t", name, deep, good)
			}
			checkTree(t, x)
			checkTree(t, tree("record", tree("u8"), x, tree("u8")))
		}
		x := tree("u8")
		for range deep - 1 {
			x = tree("result", x, tree("u8"))
		}
		checkTree(t, x)
		x = tree("u8")
		for range deep - 1 {
			x = tree("result", tree("u8"), x)
		}
		checkTree(t, x)
	}
}

// Promise 11: how many parts each kind may have.
func TestTypesWithParts(t *testing.T) {
	for kind := range 22 {
		least, most := 0, 0
		switch kind {
		case impl.KindList, impl.KindOption:
			least, most = 1, 1
		case impl.KindRecord, impl.KindVariant:
			least, most = 1, 8
		case impl.KindResult:
			least, most = 2, 2
		}
		for many := range 12 {
			x := typeTree{kind: kind, parts: alike(tree("u16"), many)}
			if x.hasN() {
				x.n = 1
			}
			good := kind > 0 && many >= least && many <= most
			if x.hasN() && many > 0 {
				// Its text has a number among types: there is none that would be it.
				checkNodes(t, x.nodes())
				checkTypeText(t, x.text())
				continue
			}
			checkWhether(t, x, good)
		}
	}
}

// Promise 11: what N may be of each kind.
func TestTypesWithNumbers(t *testing.T) {
	numbers := []int{math.MinInt, -1 << 32, -300, -1, 0, 1, 2, 7, 8, 9, 10, 11, 15, 16, 17, 31, 32, 33, 64, 255, 256, 257, 299, 300, 301, 1000, 1 << 32, 1<<32 + 1, math.MaxInt}
	for kind := 1; kind < 22; kind++ {
		for _, n := range numbers {
			x := typeTree{kind: kind, n: n}
			if kind >= impl.KindList && !x.hasN() && kind != impl.KindResult {
				x.parts = alike(tree("u8"), 1)
			} else if kind == impl.KindResult {
				x.parts = alike(tree("u8"), 2)
			}
			good := n == 0
			switch kind {
			case impl.KindFlags:
				good = n >= 1 && n <= 32
			case impl.KindEnum:
				good = n >= 1 && n <= 300
			case impl.KindOwn, impl.KindBorrow:
				good = n >= 0 && n <= 9
			}
			if got := impl.GoodType(x.nodes()); got != good {
				t.Errorf("kind %d, N %d: good %t", kind, n, got)
			}
			checkNodes(t, x.nodes())
			checkNodes(t, tree("record", tree("u8"), x).nodes())
			if x.hasN() {
				checkWhether(t, x, good)
			}
		}
	}
	for n, size := range map[int]int{1: 1, 8: 1, 9: 2, 16: 2, 17: 4, 32: 4} {
		got, _ := tellAll(t, counted("flags", n).nodes())
		if got.size != size || got.align != size || got.text != "flags<"+strconv.Itoa(n)+">" {
			t.Errorf("flags of %d: %+v", n, got)
		}
	}
	for n, size := range map[int]int{1: 1, 255: 1, 256: 1, 257: 2, 300: 2} {
		got, _ := tellAll(t, counted("enum", n).nodes())
		if got.size != size || got.align != size || got.text != "enum<"+strconv.Itoa(n)+">" {
			t.Errorf("enum of %d: %+v", n, got)
		}
	}
}

// Promise 11: kinds that are none.
func TestTypesOfNoKind(t *testing.T) {
	for _, kind := range []int{math.MinInt, -1 << 32, -21, -1, 0, 22, 23, 64, 127, 255, 256, 257, 1 << 32, 1<<32 + 2, math.MaxInt} {
		for _, l := range [][]impl.TypeNode{
			{{Kind: kind, Up: -1}}, {{Kind: kind, N: 1, Up: -1}}, {{Kind: kind, Up: -1}, {Kind: 2}}, {{Kind: impl.KindList, Up: -1}, {Kind: kind}},
			{{Kind: impl.KindRecord, Up: -1}, {Kind: 2}, {Kind: kind}, {Kind: 2}},
		} {
			if checkNodes(t, l) {
				t.Errorf("%v is good", l)
			}
		}
	}
}

// Promise 11: what each node is a part of: the node ahead, or one around that one.
func TestTypesUpwards(t *testing.T) {
	r, u, o := impl.KindRecord, impl.KindU8, impl.KindOption
	for _, c := range []struct {
		kinds []int
		ups   []int
		good  bool
	}{
		{[]int{u}, []int{-1}, true},
		{[]int{u}, []int{0}, false},
		{[]int{u}, []int{1}, false},
		{[]int{u}, []int{-2}, false},
		{[]int{u}, []int{math.MinInt}, false},
		{[]int{u}, []int{math.MaxInt}, false},
		{[]int{r, u}, []int{-1, 0}, true},
		{[]int{r, u}, []int{-1, -1}, false},
		{[]int{r, u}, []int{-1, 1}, false},
		{[]int{r, u}, []int{-1, 2}, false},
		{[]int{r, u}, []int{-1, -2}, false},
		{[]int{r, u}, []int{0, 0}, false},
		{[]int{r, r, u}, []int{-1, 0, 1}, true},
		{[]int{r, r, u}, []int{-1, 2, 1}, false},
		{[]int{r, o, u, u}, []int{-1, 0, 1, 0}, true},
		{[]int{r, u, u, u}, []int{-1, 0, 0, 0}, true},
		{[]int{r, u, u, u}, []int{-1, 0, 0, -1}, false},
		{[]int{r, u, u, u}, []int{-1, 0, 0, 3}, false},
		{[]int{r, u, u, u}, []int{-1, 0, 0, 4}, false},
		{[]int{r, u, u, u}, []int{-1, 0, 0, math.MinInt}, false},
		{[]int{r, u, u, u}, []int{-1, 0, 0, math.MaxInt}, false},
		{[]int{r, r, u, u, u}, []int{-1, 0, 1, 0, 0}, true},
		{[]int{r, r, u, u, u}, []int{-1, 0, 1, 1, 0}, true},
		{[]int{r, r, u, u, u}, []int{-1, 0, 1, 0, 1}, false},
		{[]int{r, r, r, u, u}, []int{-1, 0, 1, 2, 0}, true},
		{[]int{r, r, u, r, u, u}, []int{-1, 0, 1, 0, 3, 3}, true},
		{[]int{r, r, u, r, u, u}, []int{-1, 0, 1, 0, 3, 1}, false},
		{[]int{r, r, r, u, r, u, u}, []int{-1, 0, 1, 2, 1, 4, 2}, false},
	} {
		var l []impl.TypeNode
		for i, kind := range c.kinds {
			l = append(l, impl.TypeNode{Kind: kind, Up: c.ups[i]})
		}
		if got := checkNodes(t, l); got != c.good {
			t.Errorf("GoodType(%v) = %t", l, got)
		}
	}
}

// eachNodes: all lists of at most so many nodes, of these kinds and with Up from -2 on.
func eachNodes(most int, kinds []typeTree, do func([]impl.TypeNode)) {
	var next func(l []impl.TypeNode)
	next = func(l []impl.TypeNode) {
		do(l)
		if len(l) == most {
			return
		}
		for _, k := range kinds {
			for up := -2; up < most; up++ {
				next(append(slices.Clip(l), impl.TypeNode{Kind: k.kind, N: k.n, Up: up}))
			}
		}
	}
	next(nil)
}

// Promise 11: of all short lists of nodes just those are good that are types.
func TestAllShortTypes(t *testing.T) {
	for _, c := range []struct {
		most  int
		kinds []typeTree
	}{
		{3, []typeTree{tree("f32"), tree("list"), tree("record"), tree("variant"), tree("option"), tree("result"), counted("enum", 257), counted("own", 0), {}}},
		{4, []typeTree{tree("u64"), tree("list"), tree("record"), tree("result")}},
		{5, []typeTree{tree("u8"), tree("record")}},
	} {
		good := 0
		eachNodes(c.most, c.kinds, func(l []impl.TypeNode) {
			if checkNodes(t, l) {
				good++
			}
		})
		trees := smallTrees(c.most, c.kinds...)
		if good != len(trees) {
			t.Errorf("%d are good, want %d", good, len(trees))
		}
		for _, x := range trees {
			checkTree(t, x)
		}
	}
	for _, x := range smallTrees(6, tree("u8"), tree("u64"), tree("f32"), tree("variant"), tree("record")) {
		checkTree(t, x)
	}
}

// Promise 11: types in which one thing was changed into anything.
func TestTypesSpoilt(t *testing.T) {
	r := rand.New(rand.NewSource(112))
	good, bad := 0, 0
	for range 30000 {
		l := spoiltNodes(r, anyTree(r, 1+r.Intn(41), 1+r.Intn(9)).nodes())
		if checkNodes(t, l) {
			good++
		} else {
			bad++
		}
	}
	if good < 1000 || bad < 1000 {
		t.Error("too few of one kind:", good, bad)
	}
}

// spoiltNodes: one thing in it changed, mostly by little.
func spoiltNodes(r *rand.Rand, l []impl.TypeNode) []impl.TypeNode {
	l = slices.Clone(l)
	if len(l) == 0 {
		return l
	}
	x := &l[r.Intn(len(l))]
	switch r.Intn(9) {
	case 0:
		x.Kind = r.Intn(24) - 1
	case 1:
		x.Kind = anyPlace(r)
	case 2:
		x.N += r.Intn(5) - 2
	case 3:
		x.N = anyPlace(r)
	case 4:
		x.Up += r.Intn(5) - 2
	case 5:
		x.Up = anyPlace(r)
	case 6:
		return slices.Delete(l, len(l)-1, len(l))
	case 7:
		at := r.Intn(len(l))
		return slices.Insert(l, at, l[r.Intn(len(l))])
	default:
		return append(l, impl.TypeNode{Kind: 1 + r.Intn(12), Up: r.Intn(len(l))})
	}
	return l
}

// Promise 11: just 40 core types, and one more, in records and variants; what a list has in it is not counted.
func TestTypesOfManyFlat(t *testing.T) {
	words := func(many int) typeTree {
		x := tree("record")
		for rest := many; rest > 0; {
			eight := tree("record")
			for len(eight.parts) < 8 && rest > 0 {
				if rest == 1 {
					eight.parts, rest = append(eight.parts, tree("f32")), 0
				} else {
					eight.parts, rest = append(eight.parts, tree("string")), rest-2
				}
			}
			x.parts = append(x.parts, eight)
		}
		return x
	}
	for many := 1; many <= 60; many++ {
		for _, c := range []struct {
			x    typeTree
			flat int
		}{
			{words(many), many}, {tree("option", words(many)), many + 1}, {tree("variant", words(many), tree("u64")), many + 1}, {tree("variant", tree("u64"), words(many)), many + 1},
			{tree("result", words(many), tree("f32")), many + 1}, {tree("record", tree("list", words(many)), words(2)), 4}, {tree("list", words(many)), 2},
			{tree("record", words(many), tree("u64")), many + 1}, {tree("option", tree("option", words(many))), many + 2},
		} {
			if !impl.GoodType(c.x.nodes()) {
				t.Fatal("meant to be good:", c.x.text())
			}
			if flat, ok := impl.FlatOf(c.x.nodes()); ok != (c.flat <= 40) || ok && len(flat) != c.flat {
				t.Errorf("FlatOf(%s): %d, %t; want %d", c.x.text(), len(flat), ok, c.flat)
			}
			checkTree(t, c.x)
		}
	}
}

// Promise 11: only what lies in a type has offsets.
func TestTypesWithoutOffsets(t *testing.T) {
	for kind := 1; kind < 22; kind++ {
		x := typeTree{kind: kind}
		want := slices.Contains([]int{impl.KindRecord, impl.KindVariant, impl.KindOption, impl.KindResult}, kind)
		switch {
		case x.hasN():
			x.n = 1
		case kind == impl.KindResult:
			x.parts = alike(tree("record", tree("u8")), 2)
		case kind == impl.KindList || want:
			x.parts = alike(tree("record", tree("u8")), 1)
		}
		if offsets, ok := impl.OffsetsOf(x.nodes()); ok != want || (len(offsets) > 0) != want {
			t.Errorf("OffsetsOf(%s) = %v, %t", x.text(), offsets, ok)
		}
	}
}
