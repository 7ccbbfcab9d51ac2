package tests

import (
	"math/rand"
	"slices"
	"strconv"
	"strings"

	"loop.example/g00209/impl"
)

// Types are told by letters here: i is TypeI32, I TypeI64, f TypeF32; no letter is TypeNone; ? is any type.
func typeOfLetter(s string) int {
	switch s {
	case "i":
		return impl.TypeI32
	case "I":
		return impl.TypeI64
	case "f":
		return impl.TypeF32
	case "":
		return impl.TypeNone
	}
	panic("no type: " + s)
}

func typesOfLetters(s string) []int {
	var l []int
	for _, c := range s {
		l = append(l, typeOfLetter(string(c)))
	}
	return l
}

func letterOfType(t int) string {
	switch t {
	case impl.TypeI32:
		return "i"
	case impl.TypeI64:
		return "I"
	case impl.TypeF32:
		return "f"
	}
	return ""
}

func lettersOfTypes(l []int) string {
	s := ""
	for _, t := range l {
		s += letterOfType(t)
	}
	return s
}

// codeOfWords: blocks have a type behind a colon ("if:i"), others their A ("br:1"); i, I and f are constants, an op that
// is counted is told by its number ("i32+1").
func codeOfWords(s string) []impl.Ins {
	var l []impl.Ins
	for _, word := range strings.Fields(s) {
		l = append(l, insOfWord(word))
	}
	return l
}

func insOfWord(word string) impl.Ins {
	name, a, _ := strings.Cut(word, ":")
	blocks := map[string]int{"block": impl.InBlock, "loop": impl.InLoop, "if": impl.InIf}
	if op, ok := blocks[name]; ok {
		return impl.Ins{Op: op, A: typeOfLetter(a)}
	}
	n, _ := strconv.Atoi(a)
	name, more, _ := strings.Cut(name, "+")
	op, ok := opsByWord[name]
	if !ok {
		panic("no word: " + word)
	}
	k, _ := strconv.Atoi(more)
	return impl.Ins{Op: op + k, A: n}
}

var opsByWord = map[string]int{
	"unreachable": impl.InUnreachable, "nop": impl.InNop, "else": impl.InElse, "end": impl.InEnd,
	"br": impl.InBr, "brif": impl.InBrIf, "return": impl.InReturn, "call": impl.InCall,
	"drop": impl.InDrop, "select": impl.InSelect,
	"get": impl.InGet, "set": impl.InSet, "tee": impl.InTee, "gget": impl.InGlobalGet, "gset": impl.InGlobalSet,
	"load32": impl.InLoad32, "load64": impl.InLoad64, "store32": impl.InStore32, "store64": impl.InStore64,
	"size": impl.InSize, "grow": impl.InGrow,
	"i": impl.InConst32, "I": impl.InConst64, "f": impl.InConstF,
	"i32": impl.InI32, "i64": impl.InI64, "f32": impl.InF32,
	"wrap": impl.InWrap, "extends": impl.InExtendS, "extendu": impl.InExtendU, "tofloat": impl.InToFloat, "toint": impl.InToInt,
}

// funcOf: "iI>f" are two Params and a Result.
func funcOf(sign string, locals string, body string) impl.Func {
	params, result, _ := strings.Cut(sign, ">")
	return impl.Func{Params: typesOfLetters(params), Result: typeOfLetter(result), Locals: typesOfLetters(locals), Body: codeOfWords(body)}
}

// moduleOf: a func that is looked at, and ahead of nothing else: three others to call, three globals, the second of them
// fixed, and a memory.
func moduleOf(f impl.Func) impl.Module {
	return impl.Module{
		Funcs:   []impl.Func{f, funcOf(">", "", "end"), funcOf("iIf>I", "", "I end"), funcOf("f>", "", "end")},
		Globals: []impl.Global{{Type: impl.TypeI32}, {Type: impl.TypeI64, Fixed: true}, {Type: impl.TypeF32}},
		Memory:  true, Pages: 1, Most: 2, Start: -1,
	}
}

// wantSigns: what instructions that name nothing take, as it lies on the stack, and put.
var wantSigns = func() map[int]string {
	l := map[int]string{
		1: ">", 26: "?>", 65: ">i", 66: ">I", 67: ">f", 176: "I>i", 177: "i>I", 178: "i>I", 179: "i>f", 180: "f>i",
		161: "ff>f", 162: "ff>f", 163: "ff>f", 164: "ff>f", 165: "ff>f", 166: "f>f", 167: "ff>i", 168: "ff>i", 169: "ff>i",
		40: "i>i", 41: "i>I", 54: "ii>", 55: "iI>", 63: ">i", 64: "i>i",
	}
	for k := 1; k <= 27; k++ {
		switch {
		case k <= 15:
			l[96+k], l[128+k] = "ii>i", "II>I"
		case k <= 21:
			l[96+k], l[128+k] = "ii>i", "II>i"
		case k == 25:
			l[96+k], l[128+k] = "i>i", "I>i"
		default:
			l[96+k], l[128+k] = "i>i", "I>I"
		}
	}
	return l
}()

// wantSign: what an instruction takes, as it lies on the stack, and puts; or its fault. Of those that do no more.
func wantSign(m impl.Module, f impl.Func, x impl.Ins) (string, string, int) {
	if slices.Contains([]int{40, 41, 54, 55, 63, 64}, x.Op) && !m.Memory {
		return "", "", impl.CheckMemory
	}
	if sign, ok := wantSigns[x.Op]; ok {
		takes, puts, _ := strings.Cut(sign, ">")
		return takes, puts, impl.CheckOk
	}
	return wantNamed(m, f, x)
}

// wantNamed: of those that name a func, a local or a global.
func wantNamed(m impl.Module, f impl.Func, x impl.Ins) (string, string, int) {
	var globals []int
	for _, g := range m.Globals {
		globals = append(globals, g.Type)
	}
	row := lettersOfTypes(f.Params) + lettersOfTypes(f.Locals)
	switch x.Op {
	case impl.InCall:
		row = strings.Repeat(".", len(m.Funcs))
	case impl.InGlobalGet, impl.InGlobalSet:
		row = lettersOfTypes(globals)
	}
	if x.A >= len(row) {
		return "", "", impl.CheckIndex
	}
	t := row[x.A : x.A+1]
	switch x.Op {
	case impl.InCall:
		return lettersOfTypes(m.Funcs[x.A].Params), letterOfType(m.Funcs[x.A].Result), impl.CheckOk
	case impl.InGet, impl.InGlobalGet:
		return "", t, impl.CheckOk
	case impl.InTee:
		return t, t, impl.CheckOk
	case impl.InGlobalSet:
		if m.Globals[x.A].Fixed {
			return "", "", impl.CheckFixed
		}
	}
	return t, "", impl.CheckOk
}

// typeReader checks a body by what it is made of: each row of a block by itself, with types of its own, and with all the
// blocks in it read whole.
type typeReader struct {
	m      impl.Module
	f      impl.Func
	at     int
	labels []string // what a branch wants, the innermost block's first
	high   int
}

// typeRow: what a row has on the stack, and how much lies below that.
type typeRow struct {
	has   string
	below int
	dead  bool
}

func sameLetter(a string, b string) bool { return a == b || a == "?" || b == "?" }

// take: what is wanted, as it lies on the stack; what there was is told.
func (w *typeRow) take(want string) (string, int) {
	got := ""
	for want != "" {
		t := want[len(want)-1:]
		want = want[:len(want)-1]
		last := "?"
		switch {
		case w.has != "":
			last = w.has[len(w.has)-1:]
			w.has = w.has[:len(w.has)-1]
		case !w.dead:
			return "", impl.CheckStack
		}
		if !sameLetter(last, t) {
			return "", impl.CheckType
		}
		got = last + got
	}
	return got, impl.CheckOk
}

func (r *typeReader) put(w *typeRow, t string) {
	w.has += t
	r.high = max(r.high, w.below+len(w.has))
}

// row reads up to an else or an end, which it leaves, and asks there for what the row has to leave.
func (r *typeReader) row(below int, leaves string) int {
	w := &typeRow{below: below}
	for r.f.Body[r.at].Op != impl.InElse && r.f.Body[r.at].Op != impl.InEnd {
		if code := r.step(w, r.f.Body[r.at]); code != impl.CheckOk {
			return code
		}
		r.at++
	}
	_, code := w.take(leaves)
	if code == impl.CheckOk && w.has != "" {
		return impl.CheckStack
	}
	return code
}

// block reads from what begins it up to its end, and stays there.
func (r *typeReader) block(below int, op int, leaves string) int {
	label := leaves
	if op == impl.InLoop {
		label = ""
	}
	r.labels = append([]string{label}, r.labels...)
	code := r.row(below, leaves)
	if code == impl.CheckOk && r.f.Body[r.at].Op == impl.InElse {
		r.at++
		code = r.row(below, leaves)
	} else if code == impl.CheckOk && op == impl.InIf && leaves != "" {
		code = impl.CheckType
	}
	r.labels = r.labels[1:]
	return code
}

func (r *typeReader) step(w *typeRow, x impl.Ins) int {
	switch x.Op {
	case impl.InBlock, impl.InLoop, impl.InIf:
		if x.Op == impl.InIf {
			if _, code := w.take("i"); code != impl.CheckOk {
				return code
			}
		}
		r.at++
		code := r.block(w.below+len(w.has), x.Op, letterOfType(x.A))
		if code == impl.CheckOk {
			r.put(w, letterOfType(x.A))
		}
		return code
	case impl.InUnreachable, impl.InReturn, impl.InBr, impl.InBrIf:
		return r.leave(w, x)
	case impl.InSelect:
		return r.choose(w)
	}
	takes, puts, code := wantSign(r.m, r.f, x)
	if code == impl.CheckOk {
		_, code = w.take(takes)
	}
	if code == impl.CheckOk {
		r.put(w, puts)
	}
	return code
}

func (r *typeReader) leave(w *typeRow, x impl.Ins) int {
	wants := ""
	switch {
	case x.Op == impl.InReturn:
		wants = r.labels[len(r.labels)-1]
	case x.Op == impl.InUnreachable:
	case x.A >= len(r.labels):
		return impl.CheckLabel
	default:
		wants = r.labels[x.A]
	}
	if x.Op == impl.InBrIf {
		_, code := w.take(wants + "i")
		if code == impl.CheckOk {
			r.put(w, wants)
		}
		return code
	}
	_, code := w.take(wants)
	w.has, w.dead = "", true
	return code
}

func (r *typeReader) choose(w *typeRow) int {
	got, code := w.take("??i")
	if code != impl.CheckOk {
		return code
	}
	if !sameLetter(got[0:1], got[1:2]) {
		return impl.CheckType
	}
	if got[0:1] == "?" {
		got = got[1:]
	}
	r.put(w, got[:1])
	return impl.CheckOk
}

// wantChecked: the code, where, and how high, of a module with shape and a func of it.
func wantChecked(m impl.Module, k int) (int, int, int) {
	r := typeReader{m: m, f: m.Funcs[k]}
	code := r.block(0, impl.InBlock, letterOfType(r.f.Result))
	if code != impl.CheckOk {
		return code, r.at, 0
	}
	return impl.CheckOk, 0, r.high
}

// typedWriter writes code that is well typed, at random, within the funcs, globals and locals that there are.
type typedWriter struct {
	r      *rand.Rand
	m      impl.Module
	f      impl.Func
	labels []string // the innermost block's first
}

// row: some instructions that leave just these types.
func (w *typedWriter) row(size int, leaves string) []impl.Ins {
	var l []impl.Ins
	has := ""
	for range size {
		x, after := w.next(has)
		l = append(l, x...)
		has = after
		if n := len(l); l[n-1].Op == impl.InBr || l[n-1].Op == impl.InReturn || l[n-1].Op == impl.InUnreachable {
			if w.r.Intn(2) == 0 {
				return l
			}
			has = ""
		}
	}
	for has != "" && !strings.HasPrefix(leaves, has) {
		l = append(l, impl.Ins{Op: impl.InDrop})
		has = has[:len(has)-1]
	}
	for _, t := range leaves[len(has):] {
		l = append(l, w.one(string(t))...)
	}
	return l
}

// one: something that puts that type.
func (w *typedWriter) one(t string) []impl.Ins {
	row := lettersOfTypes(w.f.Params) + lettersOfTypes(w.f.Locals)
	if at := strings.LastIndex(row, t); at >= 0 && w.r.Intn(3) == 0 {
		return []impl.Ins{{Op: impl.InGet, A: at}}
	}
	return codeOfWords(t)
}

// next: some instructions, and what is on the stack behind them.
func (w *typedWriter) next(has string) ([]impl.Ins, string) {
	letters := []string{"", "i", "I", "f"}
	switch w.r.Intn(9) {
	case 0:
		return w.block(has, letters[w.r.Intn(4)])
	case 1:
		return w.branch(has)
	case 2:
		t := letters[1+w.r.Intn(3)]
		l := slices.Concat(w.one(t), w.one(t), w.one("i"), codeOfWords("select"))
		return l, has + t
	}
	x := anyIns(w.r)
	x.A %= 4
	takes, puts, code := "", "", impl.CheckIndex
	if op := x.Op; impl.GoodIns(x) && op != impl.InUnreachable && op != impl.InReturn && op != impl.InBr && op != impl.InBrIf &&
		op != impl.InSelect && op != impl.InElse && op != impl.InEnd {
		takes, puts, code = wantSign(w.m, w.f, x)
	}
	if code != impl.CheckOk {
		return w.one("I"), has + "I"
	}
	takes = strings.ReplaceAll(takes, "?", "f")
	n := len(takes)
	for n > 0 && !strings.HasSuffix(has, takes[:n]) {
		n--
	}
	var l []impl.Ins
	for _, t := range takes[n:] {
		l = append(l, w.one(string(t))...)
	}
	return append(l, x), has[:len(has)-n] + puts
}

func (w *typedWriter) block(has string, t string) ([]impl.Ins, string) {
	op := []int{impl.InBlock, impl.InLoop, impl.InIf}[w.r.Intn(3)]
	label := t
	if op == impl.InLoop {
		label = ""
	}
	var l []impl.Ins
	if op == impl.InIf {
		l = w.one("i")
	}
	l = append(l, impl.Ins{Op: op, A: typeOfLetter(t)})
	w.labels = append([]string{label}, w.labels...)
	l = append(l, w.row(w.r.Intn(4), t)...)
	if op == impl.InIf && (t != "" || w.r.Intn(2) == 0) {
		l = append(l, impl.Ins{Op: impl.InElse})
		l = append(l, w.row(w.r.Intn(4), t)...)
	}
	w.labels = w.labels[1:]
	return append(l, impl.Ins{Op: impl.InEnd}), has + t
}

func (w *typedWriter) branch(has string) ([]impl.Ins, string) {
	out := w.r.Intn(len(w.labels))
	wants := w.labels[out]
	switch w.r.Intn(6) {
	case 0:
		return codeOfWords("unreachable"), ""
	case 1:
		return append(codeOfWords(w.labels[len(w.labels)-1]), impl.Ins{Op: impl.InReturn}), ""
	case 2:
		return append(codeOfWords(wants), impl.Ins{Op: impl.InBr, A: out}), ""
	}
	return slices.Concat(codeOfWords(wants), w.one("i"), []impl.Ins{{Op: impl.InBrIf, A: out}}), has + wants
}

// anyTyped: a module of well typed funcs.
func anyTyped(r *rand.Rand) impl.Module {
	m := impl.Module{Start: -1, Memory: r.Intn(3) > 0}
	if m.Memory {
		m.Pages, m.Most = r.Intn(3), 2+r.Intn(7)
	}
	types := []int{impl.TypeI32, impl.TypeI64, impl.TypeF32}
	for range r.Intn(impl.MaxGlobals + 1) {
		m.Globals = append(m.Globals, impl.Global{Type: types[r.Intn(3)], Fixed: r.Intn(3) == 0, Bits: uint64(r.Uint32())})
	}
	for range 1 + r.Intn(impl.MaxFuncs) {
		m.Funcs = append(m.Funcs, impl.Func{Params: anyTypes(r, impl.MaxParams), Locals: anyTypes(r, impl.MaxLocals), Result: append(types, impl.TypeNone)[r.Intn(4)]})
	}
	for k, f := range m.Funcs {
		leaves := letterOfType(f.Result)
		for len(m.Funcs[k].Body) == 0 || len(m.Funcs[k].Body) > impl.MaxBody {
			w := typedWriter{r: r, m: m, f: f, labels: []string{leaves}}
			m.Funcs[k].Body = append(w.row(r.Intn(12), leaves), impl.Ins{Op: impl.InEnd})
		}
	}
	return m
}

func anyTypes(r *rand.Rand, most int) []int {
	var l []int
	for range r.Intn(most + 1) {
		l = append(l, []int{impl.TypeI32, impl.TypeI64, impl.TypeF32}[r.Intn(3)])
	}
	return l
}
