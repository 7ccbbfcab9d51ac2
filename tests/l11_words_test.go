package tests

import (
	"math/rand"
	"regexp"
	"slices"
	"strconv"
	"strings"

	"loop.example/g00209/impl"
)

// typeTree: a type, good or not, with its parts in it.
type typeTree struct {
	kind  int
	n     int
	parts []typeTree
}

// kindNames: by kind; there is none of kind 0.
var kindNames = strings.Split("?,bool,u8,s8,u16,s16,u32,s32,u64,s64,f32,char,string,list,record,variant,flags,option,result,enum,own,borrow", ",")

func kindOf(name string) int { return slices.Index(kindNames, name) }

// tree: by the name of its kind.
func tree(name string, parts ...typeTree) typeTree { return typeTree{kind: kindOf(name), parts: parts} }

// counted: one with N.
func counted(name string, n int) typeTree { return typeTree{kind: kindOf(name), n: n} }

// alike: so many of the same.
func alike(x typeTree, many int) []typeTree { return slices.Repeat([]typeTree{x}, many) }

// within: a type of that name around another one, so many times.
func within(name string, times int, x typeTree) typeTree {
	for range times {
		x = tree(name, x)
	}
	return x
}

func (x typeTree) hasN() bool {
	return slices.Contains([]int{impl.KindFlags, impl.KindEnum, impl.KindOwn, impl.KindBorrow}, x.kind)
}

func (x typeTree) count() int {
	n := 1
	for _, p := range x.parts {
		n += p.count()
	}
	return n
}

func (x typeTree) deep() int {
	n := 0
	for _, p := range x.parts {
		n = max(n, p.deep())
	}
	return n + 1
}

func (x typeTree) has(kinds ...int) bool {
	return slices.Contains(kinds, x.kind) || slices.ContainsFunc(x.parts, func(p typeTree) bool { return p.has(kinds...) })
}

// nodes: one behind the other, each ahead of its parts.
func (x typeTree) nodes() []impl.TypeNode { return x.behind(nil, -1) }

func (x typeTree) behind(l []impl.TypeNode, up int) []impl.TypeNode {
	own := len(l)
	l = append(l, impl.TypeNode{Kind: x.kind, N: x.n, Up: up})
	for _, p := range x.parts {
		l = p.behind(l, own)
	}
	return l
}

func (x typeTree) text() string {
	var inner []string
	for _, p := range x.parts {
		inner = append(inner, p.text())
	}
	if x.hasN() {
		inner = append(inner, strconv.Itoa(x.n))
	}
	name := "?"
	if x.kind > 0 && x.kind < len(kindNames) {
		name = kindNames[x.kind]
	}
	if inner == nil {
		return name
	}
	return name + "<" + strings.Join(inner, ",") + ">"
}

// wantTree: whether it is good.
func wantTree(x typeTree) bool { return x.count() <= 40 && x.deep() <= 8 && wantNodes(x) }

func wantNodes(x typeTree) bool {
	parts, n := [2]int{0, 0}, [2]int{0, 0}
	switch x.kind {
	case impl.KindList, impl.KindOption:
		parts = [2]int{1, 1}
	case impl.KindResult:
		parts = [2]int{2, 2}
	case impl.KindRecord, impl.KindVariant:
		parts = [2]int{1, 8}
	case impl.KindFlags:
		n = [2]int{1, 32}
	case impl.KindEnum:
		n = [2]int{1, 300}
	case impl.KindOwn, impl.KindBorrow:
		n = [2]int{0, 9}
	}
	for _, p := range x.parts {
		if !wantNodes(p) {
			return false
		}
	}
	many := len(x.parts)
	return x.kind >= 1 && x.kind <= 21 && many >= parts[0] && many <= parts[1] && x.n >= n[0] && x.n <= n[1]
}

// treeOfNodes takes each node's parts behind it, as long as they say that they are its own: where one is left over in the
// end it is no part of what it says.
func treeOfNodes(l []impl.TypeNode) (typeTree, bool) {
	if len(l) == 0 || l[0].Up != -1 {
		return typeTree{}, false
	}
	x, end := takeTree(l, 0)
	return x, end == len(l)
}

func takeTree(l []impl.TypeNode, at int) (typeTree, int) {
	x := typeTree{kind: l[at].Kind, n: l[at].N}
	next := at + 1
	for next < len(l) && l[next].Up == at {
		var p typeTree
		p, next = takeTree(l, next)
		x.parts = append(x.parts, p)
	}
	return x, next
}

var numberAtFront = regexp.MustCompile(`^(0|[1-9][0-9]{0,8})>`)

// treeOfText: the good type that has this text, read from the front, byte by byte as the text must be.
func treeOfText(s string) (typeTree, bool) {
	x, rest, ok := readTree(s)
	return x, ok && rest == "" && wantTree(x)
}

func readTree(s string) (typeTree, string, bool) {
	for kind, name := range kindNames[1:] {
		rest, ok := strings.CutPrefix(s, name)
		if !ok {
			continue
		}
		x := typeTree{kind: kind + 1}
		inner, opened := strings.CutPrefix(rest, "<")
		switch {
		case !opened:
			return x, rest, !x.hasN()
		case x.hasN():
			number := numberAtFront.FindString(inner)
			x.n, _ = strconv.Atoi(strings.TrimSuffix(number, ">"))
			return x, inner[len(number):], number != ""
		}
		return readParts(x, inner)
	}
	return typeTree{}, s, false
}

// readParts is told what stands behind a bracket: it takes all up to the one that closes it. A kind that has no parts has
// no brackets either, and is not good with a part.
func readParts(x typeTree, s string) (typeTree, string, bool) {
	for {
		p, rest, ok := readTree(s)
		x.parts = append(x.parts, p)
		if after, closed := strings.CutPrefix(rest, ">"); ok && closed {
			return x, after, true
		}
		after, more := strings.CutPrefix(rest, ",")
		if !ok || !more || len(x.parts) > 100 {
			return x, rest, false
		}
		s = after
	}
}

// firstFit: the least number from there on that is a multiple of all of them.
func firstFit(from int, aligns ...int) int {
	for slices.ContainsFunc(aligns, func(a int) bool { return from%a != 0 }) {
		from++
	}
	return from
}

// wantRoom: size, align and offsets of a good type.
func wantRoom(x typeTree) (int, int, []int) {
	switch name := kindNames[x.kind]; {
	case x.kind == impl.KindRecord:
		return wantRow(x.parts)
	case x.kind == impl.KindVariant || x.kind == impl.KindOption || x.kind == impl.KindResult:
		return wantOver(x.parts)
	case name == "flags":
		size := 1
		for 8*size < x.n {
			size *= 2
		}
		return size, size, nil
	case name == "enum" && x.n > 256:
		return 2, 2, nil
	case strings.Contains(" string list ", " "+name+" "):
		return 8, 4, nil
	case strings.Contains(" char own borrow ", " "+name+" "):
		return 4, 4, nil
	case strings.ContainsAny(name[1:], "1368"):
		bits, _ := strconv.Atoi(name[1:])
		return bits / 8, bits / 8, nil
	}
	return 1, 1, nil
}

func wantRow(parts []typeTree) (int, int, []int) {
	aligns, end := []int{1}, 0
	var offsets []int
	for _, p := range parts {
		size, align, _ := wantRoom(p)
		at := firstFit(end, align)
		offsets, aligns, end = append(offsets, at), append(aligns, align), at+size
	}
	return firstFit(end, aligns...), slices.Max(aligns), offsets
}

func wantOver(parts []typeTree) (int, int, []int) {
	aligns, sizes := []int{1}, []int{0}
	for _, p := range parts {
		size, align, _ := wantRoom(p)
		aligns, sizes = append(aligns, align), append(sizes, size)
	}
	at := firstFit(1, aligns...)
	return firstFit(at+slices.Max(sizes), aligns...), slices.Max(aligns), []int{at}
}

// wantFlat: the core types of a good type, as letters.
func wantFlat(x typeTree) string {
	row := ""
	switch x.kind {
	case impl.KindU64, impl.KindS64:
		return "I"
	case impl.KindF32:
		return "f"
	case impl.KindString, impl.KindList:
		return "ii"
	case impl.KindRecord:
		for _, p := range x.parts {
			row += wantFlat(p)
		}
		return row
	case impl.KindVariant, impl.KindOption, impl.KindResult:
		return "i" + wantJoined(x.parts)
	}
	return "i"
}

// wantJoined gathers at each place what the parts have there.
func wantJoined(parts []typeTree) string {
	var places [100]string
	for _, p := range parts {
		for i, letter := range wantFlat(p) {
			places[i] += string(letter)
		}
	}
	row := ""
	for _, there := range places {
		switch has := func(letter string) bool { return strings.Contains(there, letter) }; {
		case there == "":
			return row
		case has("I"):
			row += "I"
		case has("i"):
			row += "i"
		default:
			row += "f"
		}
	}
	return row
}

// anyTree: a type of at most so many nodes, at most so deep, that is good if these are.
func anyTree(r *rand.Rand, most int, deep int) typeTree {
	x := typeTree{kind: 1 + r.Intn(21)}
	if deep > 1 && most > 2 && r.Intn(2) == 0 {
		x.kind = kindOf([]string{"list", "record", "record", "variant", "variant", "option", "result"}[r.Intn(7)])
	}
	many := 0
	switch x.kind {
	case impl.KindFlags:
		x.n = 1 + r.Intn(32)
	case impl.KindEnum:
		x.n = []int{1 + r.Intn(300), 255 + r.Intn(4)}[r.Intn(2)]
	case impl.KindOwn, impl.KindBorrow:
		x.n = r.Intn(10)
	case impl.KindList, impl.KindOption:
		many = 1
	case impl.KindResult:
		many = 2
	case impl.KindRecord, impl.KindVariant:
		many = 1 + r.Intn(min(8, max(most-1, 1)))
	}
	if deep == 1 && many > 0 || many > most-1 {
		return typeTree{kind: 1 + r.Intn(12)}
	}
	left := most - 1
	for i := range many {
		p := anyTree(r, left-(many-1-i), deep-1)
		left -= p.count()
		x.parts = append(x.parts, p)
	}
	return x
}

// smallTrees: all good types of at most so many nodes, of these kinds alone.
func smallTrees(most int, kinds ...typeTree) []typeTree {
	bySize := make([][]typeTree, most+1)
	for size := 1; size <= most; size++ {
		for _, k := range kinds {
			for _, parts := range rowsOfTrees(bySize, size-1) {
				if x := (typeTree{k.kind, k.n, parts}); wantTree(x) {
					bySize[size] = append(bySize[size], x)
				}
			}
		}
	}
	return slices.Concat(bySize...)
}

// rowsOfTrees: all rows that have just so many nodes together.
func rowsOfTrees(bySize [][]typeTree, nodes int) [][]typeTree {
	if nodes == 0 {
		return [][]typeTree{nil}
	}
	var rows [][]typeTree
	for first := 1; first <= nodes; first++ {
		for _, x := range bySize[first] {
			for _, more := range rowsOfTrees(bySize, nodes-first) {
				rows = append(rows, slices.Concat([]typeTree{x}, more))
			}
		}
	}
	return rows
}
