package tests

import (
	"fmt"
	"math"
	"math/rand"
	"regexp"
	"slices"
	"strconv"
	"strings"
	"unicode/utf8"

	"loop.example/g00209/impl"
)

// valueTree: a value, fitting or not, with its parts in it.
type valueTree struct {
	n     int
	text  string
	parts []valueTree
}

// number: a value with N, and what is beside it.
func number(n int, parts ...valueTree) valueTree { return valueTree{n: n, parts: parts} }

func written(s string) valueTree { return valueTree{text: s} }

// gathered: a list's or a record's.
func gathered(parts ...valueTree) valueTree { return valueTree{parts: parts} }

// often: so many of the same, gathered.
func often(v valueTree, many int) valueTree {
	return gathered(slices.Repeat([]valueTree{v}, many)...)
}

// nodes: one behind the other, each ahead of its parts.
func (v valueTree) nodes() []impl.Value { return v.behind(nil, -1) }

func (v valueTree) behind(l []impl.Value, up int) []impl.Value {
	own := len(l)
	l = append(l, impl.Value{N: v.n, Text: v.text, Up: up})
	for _, p := range v.parts {
		l = p.behind(l, own)
	}
	return l
}

func (v valueTree) count() int { return len(v.nodes()) }

// wantValues: the tree of these nodes: each must be in the node ahead, or in one that this one is in.
func wantValues(l []impl.Value) (valueTree, bool) {
	if len(l) == 0 || l[0].Up != -1 {
		return valueTree{}, false
	}
	parts := make([][]int, len(l))
	for i := 1; i < len(l); i++ {
		at := i - 1
		for at >= 0 && at != l[i].Up {
			at = l[at].Up
		}
		if at < 0 {
			return valueTree{}, false
		}
		parts[at] = append(parts[at], i)
	}
	var grow func(at int) valueTree
	grow = func(at int) valueTree {
		v := valueTree{n: l[at].N, text: l[at].Text}
		for _, i := range parts[at] {
			v.parts = append(v.parts, grow(i))
		}
		return v
	}
	return grow(0), true
}

// wantNumber: whether N may be so in a value of this type.
func wantNumber(x typeTree, n int) bool {
	digits := strconv.Itoa(n)
	switch name := kindNames[x.kind]; name {
	case "bool", "option", "result":
		return digits == "0" || digits == "1"
	case "s8", "s16", "s32", "s64":
		bits, _ := strconv.Atoi(name[1:])
		_, err := strconv.ParseInt(digits, 10, bits)
		return err == nil
	case "u8", "u16", "u32":
		bits, _ := strconv.Atoi(name[1:])
		_, err := strconv.ParseUint(digits, 10, bits)
		return err == nil
	case "u64":
		return true
	case "f32":
		f := math.Float32frombits(uint32(n))
		return n>>32 == 0 && (f == f || n == 0x7fc00000)
	case "char":
		return n>>31 == 0 && utf8.ValidRune(rune(n))
	case "variant":
		return n >= 0 && n < len(x.parts)
	case "flags":
		return n>>x.n == 0
	case "enum":
		return n >= 0 && n < x.n
	case "own", "borrow":
		return n >= 0 && n <= 100000
	}
	return n == 0
}

// wantFits: whether it is a value of this type, however many nodes it has.
func wantFits(x typeTree, v valueTree) bool {
	isString := x.kind == impl.KindString
	if !wantNumber(x, v.n) || !isString && v.text != "" || isString && (len(v.text) > 200 || !utf8.ValidString(v.text)) {
		return false
	}
	var types []typeTree
	switch x.kind {
	case impl.KindList:
		types = alike(x.parts[0], len(v.parts))
	case impl.KindRecord:
		types = x.parts
	case impl.KindVariant, impl.KindResult:
		types = []typeTree{x.parts[v.n]}
	case impl.KindOption:
		types = alike(x.parts[0], v.n)
	}
	if len(types) != len(v.parts) {
		return false
	}
	for i, p := range v.parts {
		if !wantFits(types[i], p) {
			return false
		}
	}
	return true
}

// wantText: what is told of a value that fits.
func wantText(x typeTree, v valueTree) string {
	part := func(i int, t typeTree) string { return wantText(t, v.parts[i]) }
	var row []string
	switch x.kind {
	case impl.KindBool:
		return fmt.Sprint(v.n == 1)
	case impl.KindU64:
		return fmt.Sprint(uint64(v.n))
	case impl.KindString:
		return `"` + wantQuoted(v.text) + `"`
	case impl.KindList:
		for i := range v.parts {
			row = append(row, part(i, x.parts[0]))
		}
		return "[" + strings.Join(row, ",") + "]"
	case impl.KindRecord:
		for i, t := range x.parts {
			row = append(row, part(i, t))
		}
		return "(" + strings.Join(row, ",") + ")"
	case impl.KindVariant:
		return fmt.Sprintf("%d:%s", v.n, part(0, x.parts[v.n]))
	case impl.KindOption:
		if v.n == 0 {
			return "none"
		}
		return "some:" + part(0, x.parts[0])
	case impl.KindResult:
		return []string{"ok:", "err:"}[v.n] + part(0, x.parts[v.n])
	}
	return fmt.Sprint(v.n)
}

func wantQuoted(s string) string {
	var told strings.Builder
	for _, b := range []byte(s) {
		if b < 32 || b > 126 || b == 34 || b == 92 {
			fmt.Fprintf(&told, "\\%02x", b)
		} else {
			told.WriteByte(b)
		}
	}
	return told.String()
}

// What stands at the front of a text: a number, or a string of which each byte is told as it must be.
var (
	digitsAtFront = regexp.MustCompile(`^(0|-?[1-9][0-9]*)`)
	stringAtFront = regexp.MustCompile(`^"([ !#-\[\]-~]|\\([01][0-9a-f]|22|5c|7f|[89a-f][0-9a-f]))*"`)
	toldByDigits  = regexp.MustCompile(`\\..`)
)

// valueOfText: the value that has this text, read from the front, as each type must be told.
func valueOfText(x typeTree, s string) (valueTree, bool) {
	v, rest, ok := readTold(x, s)
	return v, ok && rest == "" && v.count() <= 100 && wantFits(x, v)
}

func readTold(x typeTree, s string) (valueTree, string, bool) {
	switch x.kind {
	case impl.KindBool:
		return readWords(s, []string{"false", "true"}, nil)
	case impl.KindString:
		told := stringAtFront.FindString(s)
		if told == "" {
			return valueTree{}, s, false
		}
		inner := toldByDigits.ReplaceAllStringFunc(told[1:len(told)-1], func(b string) string {
			n, _ := strconv.ParseUint(b[1:], 16, 8)
			return string([]byte{byte(n)})
		})
		return written(inner), s[len(told):], true
	case impl.KindList:
		return readGathered(s, "[", "]", func(int) typeTree { return x.parts[0] })
	case impl.KindRecord:
		v, rest, ok := readGathered(s, "(", ")", func(i int) typeTree { return x.parts[min(i, len(x.parts)-1)] })
		return v, rest, ok && len(v.parts) == len(x.parts)
	case impl.KindVariant:
		var words []string
		for i := range x.parts {
			words = append(words, strconv.Itoa(i)+":")
		}
		return readWords(s, words, x.parts)
	case impl.KindOption:
		if rest, ok := strings.CutPrefix(s, "none"); ok {
			return number(0), rest, true
		}
		v, rest, ok := readWords(s, []string{"some:"}, x.parts)
		v.n = 1
		return v, rest, ok
	case impl.KindResult:
		return readWords(s, []string{"ok:", "err:"}, x.parts)
	}
	digits := digitsAtFront.FindString(s)
	n, err := strconv.ParseInt(digits, 10, 64)
	if x.kind == impl.KindU64 {
		var u uint64
		u, err = strconv.ParseUint(digits, 10, 64)
		n = int64(u)
	}
	return number(int(n)), s[len(digits):], err == nil
}

// readWords: one of these words, and, where there are types, behind it a value of the one beside it.
func readWords(s string, words []string, types []typeTree) (valueTree, string, bool) {
	for i, word := range words {
		rest, ok := strings.CutPrefix(s, word)
		switch {
		case ok && types == nil:
			return number(i), rest, true
		case ok:
			p, rest, ok := readTold(types[i], rest)
			return number(i, p), rest, ok
		}
	}
	return valueTree{}, s, false
}

func readGathered(s string, opens string, closes string, typeAt func(int) typeTree) (valueTree, string, bool) {
	s, ok := strings.CutPrefix(s, opens)
	if rest, closed := strings.CutPrefix(s, closes); ok && closed {
		return gathered(), rest, true
	}
	var v valueTree
	for ok {
		var p valueTree
		p, s, ok = readTold(typeAt(len(v.parts)), s)
		v.parts = append(v.parts, p)
		if rest, closed := strings.CutPrefix(s, closes); ok && closed {
			return v, rest, true
		}
		if len(v.parts) > 200 || !strings.HasPrefix(s, ",") {
			break
		}
		s = s[1:]
	}
	return v, s, false
}

// wantZero: of each type what it has at least, with N 0.
func wantZero(x typeTree) valueTree {
	var v valueTree
	switch x.kind {
	case impl.KindRecord:
		for _, p := range x.parts {
			v.parts = append(v.parts, wantZero(p))
		}
	case impl.KindVariant, impl.KindResult:
		v.parts = []valueTree{wantZero(x.parts[0])}
	}
	return v
}

// valueEdges: as edgesOfValues tells them.
var valueEdges = edgesOfValues()

// anyNumberOf: one that fits a type, often at its bounds.
func anyNumberOf(r *rand.Rand, x typeTree) int {
	for {
		n := []int{0, 1, r.Intn(9), r.Intn(300), x.n - 1, 1<<(x.n%40) - 1, int(anyWord(r)), valueEdges[r.Intn(len(valueEdges))]}[r.Intn(8)]
		if wantNumber(x, n) {
			return n
		}
	}
}

// edgesOfValues: numbers at the bounds of all kinds, and next to them.
func edgesOfValues() []int {
	l := []int{math.MinInt, math.MinInt + 1, math.MaxInt - 1, math.MaxInt, 100000, 100001, 0x7f800000, 0xff800000, 0x7fc00000, 0x7f800001, 0x7fc00001, 0x7fbfffff, 0x7fffffff, 0xffc00000, 0xff800001, 299, 300, 301, 65, 48, 34, 92}
	for bits := range 64 {
		l = append(l, 1<<bits-1, 1<<bits, 1<<bits+1, -1<<bits, -1<<bits-1)
	}
	for _, p := range []int{0, 55295, 55296, 57343, 57344, 1114111, 1114112} {
		l = append(l, p)
	}
	slices.Sort(l)
	return slices.Compact(l)
}

// someStrings: texts of CodeUtf8 that are told in all ways.
func someStrings() []string {
	return []string{"", "a", "a\"b", "\\", "\"", "\x00\x1f\x20\x7e\x7f", "\u00e4\u20ac\U0001f600", "[],():some", "\\22", strings.Repeat("x", 200), strings.Repeat("\"", 200), strings.Repeat("\U0010ffff", 50)}
}

// anyValue: one that fits; of at most that many nodes, if its type has no more.
func anyValue(r *rand.Rand, x typeTree, most int) valueTree {
	v := number(anyNumberOf(r, x))
	var types []typeTree
	switch x.kind {
	case impl.KindString:
		l := someStrings()
		v.text = l[r.Intn(len(l))]
	case impl.KindList:
		types = alike(x.parts[0], min(max(most-1, 0), []int{0, 1, r.Intn(4), r.Intn(100)}[r.Intn(4)]))
	case impl.KindRecord:
		types = x.parts
	case impl.KindVariant, impl.KindResult:
		types = x.parts[v.n : v.n+1]
	case impl.KindOption:
		types = x.parts[:v.n]
	}
	most--
	for i, t := range types {
		left := most
		if x.kind != impl.KindList {
			// Without parts in lists a value has no more nodes than its type.
			left -= tree("record", types[i+1:]...).count() - 1
		}
		p := anyValue(r, t, left)
		if x.kind == impl.KindList && p.count() > most {
			break
		}
		most -= p.count()
		v.parts = append(v.parts, p)
	}
	return v
}

// typeTold: the type that has this text.
func typeTold(s string) typeTree {
	x, ok := treeOfText(s)
	if !ok {
		panic("no type: " + s)
	}
	return x
}

// spoiltValues: one thing in them changed, mostly by little.
func spoiltValues(r *rand.Rand, l []impl.Value) []impl.Value {
	l = slices.Clone(l)
	if len(l) == 0 {
		return l
	}
	x := &l[r.Intn(len(l))]
	switch r.Intn(9) {
	case 0:
		x.N += r.Intn(5) - 2
	case 1:
		x.N = valueEdges[r.Intn(len(valueEdges))]
	case 2:
		x.Text += []string{"a", "\xff", "\x80", text(200)}[r.Intn(4)]
	case 3:
		x.Text = anyText(r)
	case 4:
		x.Up += r.Intn(5) - 2
	case 5:
		x.Up = anyPlace(r)
	case 6:
		return slices.Delete(l, len(l)-1, len(l))
	case 7:
		return slices.Insert(l, r.Intn(len(l)), l[r.Intn(len(l))])
	default:
		return append(l, impl.Value{Up: r.Intn(len(l))})
	}
	return l
}

// spoiltTold: a text of a value in which something lacks, is doubled, or is something else.
func spoiltTold(r *rand.Rand, s string) string {
	words := []string{"[", "]", "(", ")", ",", ":", "\"", "\\", "\\22", "\\5C", "\\5c", "\\61", "\\ff", "\xff", "0", "1", "-", "-1", "00", "9", "some:", "none", "ok:", "err:", "true", "false", " ", "x", "\n", "[]", "\"\"", "0:", "1:"}
	at := r.Intn(len(s) + 1)
	to := min(len(s), at+r.Intn(4))
	switch r.Intn(4) {
	case 0:
		return s[:at] + s[to:]
	case 1:
		return s[:to] + s[at:]
	}
	return s[:at] + words[r.Intn(len(words))] + s[to:]
}
