package tests

import (
	"encoding/hex"
	"fmt"
	"math/rand"
	"regexp"
	"slices"
	"strconv"
	"strings"
	"testing"

	"loop.example/g00209/impl"
)

// Told by the document.
const (
	mostScript = 3000
	mostLines  = 60
	lineFuel   = 1000
)

// myLines: parts and a world of the tests' own, with which lines do what they tell, by the functions of the chapters ahead.
type myLines struct {
	parts []impl.Part
	world impl.World
}

func newLines() *myLines {
	return &myLines{world: impl.World{Tables: make([]impl.Table, mostParts)}}
}

func (m *myLines) copied() myLines {
	return myLines{slices.Clone(m.parts), copyOfWorld(m.world)}
}

func sameLines(a myLines, b myLines) bool {
	return slices.Equal(a.parts, b.parts) && sameWorld(a.world, b.world)
}

func (m myLines) String() string {
	var l []string
	for _, p := range m.parts {
		l = append(l, partText(p))
	}
	return strings.Join(l, "; ") + " and " + worldText(m.world)
}

// lineForm: W is a word, which may be of no bytes; D a number; X all that is left; H bytes in hex.
func lineForm(form string) *regexp.Regexp {
	s := strings.NewReplacer("W", `([^ ]*)`, "D", `(0|[1-9][0-9]{0,8})`, "X", `(.*)`, "H", `((?:[0-9a-f]{2})*)`).Replace(form)
	return regexp.MustCompile(`(?s)\A` + s + `\z`)
}

// lineForms: what a line of each form does, told what stands in it.
var lineForms = []struct {
	form *regexp.Regexp
	do   func(m *myLines, l []string) string
}{
	{lineForm("part W D"), (*myLines).part}, {lineForm("type X"), (*myLines).types}, {lineForm("lay W W X"), (*myLines).lay}, {lineForm("lift W D X"), (*myLines).lift}, {lineForm("pass W W D X"), (*myLines).pass}, {lineForm("grow W D"), (*myLines).grow},
	{lineForm("make D D"), (*myLines).make}, {lineForm("give D D D D"), (*myLines).give}, {lineForm("lend D D D D"), (*myLines).lend}, {lineForm("drop D D D"), (*myLines).drop}, {lineForm("end"), (*myLines).end}, {lineForm("owner D"), (*myLines).owner}, {lineForm("run H D D"), (*myLines).run},
}

func (m *myLines) do(line string) string {
	for _, f := range lineForms {
		if l := f.form.FindStringSubmatch(line); l != nil {
			return f.do(m, l[1:])
		}
	}
	return "what"
}

// numeral: of digits that the form has looked at.
func numeral(s string) int {
	n, _ := strconv.Atoi(s)
	return n
}

func (m *myLines) at(name string) int {
	return slices.IndexFunc(m.parts, func(p impl.Part) bool { return p.Name == name })
}

func (m *myLines) part(l []string) string {
	p := partOf(impl.Heap{Memory: impl.Memory{Max: 4, Data: strings.Repeat("\x00", 256)}}, numeral(l[1]))
	if p.Name = l[0]; len(m.parts) == mostParts || m.at(l[0]) >= 0 || !impl.GoodPart(p) {
		return "no"
	}
	m.parts = append(m.parts, p)
	return "ok"
}

func (m *myLines) types(l []string) string {
	nodes, ok := impl.ReadType(l[0])
	if !ok {
		return "no"
	}
	size, _ := impl.SizeOf(nodes)
	align, _ := impl.AlignOf(nodes)
	if flat, ok := impl.FlatOf(nodes); ok {
		return fmt.Sprintf("size %d align %d flat %d", size, align, len(flat))
	}
	return fmt.Sprintf("size %d align %d flat none", size, align)
}

func (m *myLines) lay(l []string) string {
	nodes, is := impl.ReadType(l[1])
	v, ok := impl.ReadValue(nodes, l[2])
	at := m.at(l[0])
	switch {
	case !is || !ok:
		return "no"
	case at < 0:
		return "no 1"
	}
	p := &m.parts[at]
	h, place, code := impl.LowerValue(p.Heap, nodes, v, p.Code)
	if code != impl.LowerOk {
		return fmt.Sprint("no ", code)
	}
	p.Heap = h
	return fmt.Sprint("at ", place)
}

func (m *myLines) lift(l []string) string {
	nodes, ok := impl.ReadType(l[2])
	at := m.at(l[0])
	if !ok || at < 0 {
		return "no 1"
	}
	v, code := impl.LiftValue(m.parts[at].Heap.Memory, nodes, numeral(l[1]), m.parts[at].Code)
	if code != impl.LowerOk {
		return fmt.Sprint("no ", code)
	}
	s, _ := impl.ValueText(nodes, v)
	return "value " + s
}

func (m *myLines) pass(l []string) string {
	nodes, ok := impl.ReadType(l[3])
	from, to := m.at(l[0]), m.at(l[1])
	if !ok || from < 0 || to < 0 {
		return "no 1"
	}
	p, place, code := impl.PassValue(m.parts[from], m.parts[to], nodes, numeral(l[2]))
	if code != impl.PassOk {
		return fmt.Sprint("no ", code)
	}
	m.parts[to] = p
	return fmt.Sprint("at ", place)
}

func (m *myLines) grow(l []string) string {
	at := m.at(l[0])
	if at < 0 {
		return "no"
	}
	memory, was, ok := impl.GrowMemory(m.parts[at].Heap.Memory, numeral(l[1]))
	if !ok {
		return "no"
	}
	m.parts[at].Heap.Memory = memory
	return fmt.Sprint("was ", was)
}

func (m *myLines) act(a impl.Act) string {
	w, n, code := impl.DoAct(m.world, a)
	if code != impl.HandleOk {
		return fmt.Sprint("no ", code)
	}
	m.world = w
	return fmt.Sprint("told ", n)
}

func (m *myLines) make(l []string) string {
	return m.act(impl.Act{Kind: impl.DoMake, Part: numeral(l[0]), N: numeral(l[1])})
}

func (m *myLines) give(l []string) string {
	return m.act(impl.Act{Kind: impl.DoGive, Part: numeral(l[0]), At: numeral(l[1]), To: numeral(l[2]), N: numeral(l[3])})
}

func (m *myLines) lend(l []string) string {
	return m.act(impl.Act{Kind: impl.DoLend, Part: numeral(l[0]), At: numeral(l[1]), To: numeral(l[2]), N: numeral(l[3])})
}

func (m *myLines) drop(l []string) string {
	return m.act(impl.Act{Kind: impl.DoDrop, Part: numeral(l[0]), At: numeral(l[1]), N: numeral(l[2])})
}

func (m *myLines) end([]string) string { return m.act(impl.Act{Kind: impl.DoEnd}) }

func (m *myLines) owner(l []string) string {
	owners, ok := impl.OwnersOf(m.world, numeral(l[0]))
	if !ok {
		return "no"
	}
	row := []string{"owner"}
	for _, part := range owners {
		row = append(row, strconv.Itoa(part))
	}
	return strings.Join(row, " ")
}

func (m *myLines) run(l []string) string {
	b, _ := hex.DecodeString(l[0])
	module, code := impl.LoadModule(string(b))
	if code != impl.LoadOk {
		return fmt.Sprint("no ", code)
	}
	c := impl.Call{Func: numeral(l[1]), Fuel: lineFuel}
	for i := 0; c.Func < len(module.Funcs) && i < len(module.Funcs[c.Func].Params); i++ {
		c.Args = append(c.Args, impl.Word{Type: impl.TypeI32, Bits: uint64(numeral(l[2]))})
	}
	x, o := impl.MakeInstance(module, lineFuel)
	if o.Code == impl.RunOk {
		_, o = impl.CallInstance(x, c)
	}
	switch o.Code {
	case impl.RunOk:
		return fmt.Sprint("value ", o.Value.Type, " ", o.Value.Bits)
	case impl.RunTrap:
		return fmt.Sprint("trap ", o.Trap)
	}
	return fmt.Sprint("no ", o.Code)
}

// scriptLines: the lines of a text, if it is a script.
func scriptLines(s string) ([]string, bool) {
	lines := strings.SplitAfter(s, "\n")
	lines = slices.DeleteFunc(lines, func(line string) bool { return line == "" })
	for i, line := range lines {
		if !strings.HasSuffix(line, "\n") {
			return nil, false
		}
		lines[i] = line[:len(line)-1]
	}
	return lines, len(s) <= mostScript && len(lines) <= mostLines
}

// linesPlayed: what these lines answer, and what has come of them.
func linesPlayed(lines []string) (string, myLines) {
	m := newLines()
	var answers string
	for _, line := range lines {
		answers += m.do(line) + "\n"
	}
	return answers, *m
}

// linesOf: what PartsOf tells.
func linesOf(s string) (myLines, bool) {
	parts, world, ok := impl.PartsOf(s)
	return myLines{parts, world}, ok
}

// checkScript: a text, a script or not, answers what it must: its answers.
func checkScript(t *testing.T, s string) string {
	t.Helper()
	defer func() {
		if r := recover(); r != nil {
			t.Fatalf("panic at %.1000q: %v", s, r)
		}
	}()
	kept := strings.Clone(s)
	lines, is := scriptLines(s)
	var want string
	var end myLines
	if is {
		want, end = linesPlayed(lines)
	}
	got := impl.RunParts(s)
	if got != want {
		t.Fatalf("%.3000q: %.2000q, want %.2000q", s, got, want)
	}
	if m, ok := linesOf(s); ok != is || !sameLines(m, end) {
		t.Fatalf("%.3000q: %s, %t, want %s, %t", s, short(m), ok, short(end), is)
	}
	if s != kept {
		t.Fatalf("%.1000q has become %.1000q", kept, s)
	}
	return got
}

// checkDialogue: a script of these lines, each with its answer behind an arrow.
func checkDialogue(t *testing.T, told string) myLines {
	t.Helper()
	var s, want string
	for _, line := range strings.Split(strings.Trim(told, "\n"), "\n") {
		line, answer, ok := strings.Cut(line, " => ")
		if !ok {
			t.Fatal("no answer:", line)
		}
		s, want = s+line+"\n", want+answer+"\n"
	}
	got := checkScript(t, s)
	if got != want {
		a, b := strings.Split(got, "\n"), strings.Split(want, "\n")
		for i := range min(len(a), len(b)) {
			if a[i] != b[i] {
				t.Fatalf("line %d, %.500q, answers %.500q, want %.500q", i, strings.Split(s, "\n")[i], a[i], b[i])
			}
		}
		t.Fatalf("%.3000q: %.2000q, want %.2000q", s, got, want)
	}
	m, _ := linesOf(s)
	return m
}

// inHex: a module's bytes, as the tests themselves write them.
func inHex(m impl.Module) string { return hex.EncodeToString([]byte(wantModule(m))) }

// reckoner: a module of funcs that each come to something else.
func reckoner() impl.Module {
	return impl.Module{Start: -1, Funcs: []impl.Func{
		funcOf(">i", "", "i:7 end"),
		funcOf("ii>i", "", "get:0 get:1 i32+1 end"),
		funcOf("i>i", "", "i:12 get:0 i32+5 end"),
		funcOf("i>", "", "get:0 drop end"),
		funcOf("i>I", "", "I:-1 end"),
		funcOf(">f", "", "f:1069547520 end"),
		funcOf("f>", "", "end"),
		funcOf(">", "", "unreachable end"),
		funcOf(">", "", "loop br:0 end end"),
		funcOf(">", "", "call:9 end"),
	}}
}

// keeper: one with a memory of a page.
func keeper() impl.Module {
	return impl.Module{Memory: true, Pages: 1, Most: 1, Start: -1, Funcs: []impl.Func{
		funcOf("i>i", "", "get:0 load32 end"),
		funcOf("iI>i", "", "get:0 end"),
		funcOf("fi>i", "", "get:1 end"),
		funcOf("iiiiii>i", "", "get:0 get:5 i32+1 end"),
	}}
}

// ofStart: a module of two funcs, the second of which is Start.
func ofStart(start string) impl.Module {
	return impl.Module{Funcs: []impl.Func{funcOf("i>i", "", "gget:0 get:0 i32+1 end"), funcOf(">", "i", start)}, Globals: []impl.Global{{Type: impl.TypeI32}}, Start: 1}
}

// hexModules: in hex, of all outcomes.
func hexModules() []string {
	untyped := reckoner()
	untyped.Funcs[0].Result = impl.TypeF32
	return []string{inHex(reckoner()), inHex(reckoner()), inHex(keeper()), inHex(ofStart("i:30 gset:0 end")), inHex(ofStart("unreachable end")), inHex(ofStart("loop br:0 end end")), inHex(untyped), "0071706d", "", "0071706d09", inHex(bare("end"))}
}

// laidThere: where a line has laid a value.
type laidThere struct {
	name string
	at   int
	kind string
}

// lineWriter writes lines that mostly do something, and does them; kinds are those that it writes, each as often as it stands
// there.
type lineWriter struct {
	r     *rand.Rand
	m     *myLines
	laid  []laidThere
	kinds []func(*lineWriter) string
	acts  []int
}

var someNames = []string{"a", "b", "c-1", "0", "abcdefghijklmnopqrst", "-", "zz"}

func (w *lineWriter) name() string {
	if w.r.Intn(16) > 0 && len(w.m.parts) > 0 {
		return w.m.parts[w.r.Intn(len(w.m.parts))].Name
	}
	return someNames[w.r.Intn(len(someNames))]
}

// typeText: mostly a short one, now and then with handles.
func (w *lineWriter) typeText() string {
	if w.r.Intn(24) == 0 {
		return []string{"", "u9", "own<3>", "u8 ", "list<u8,u8>", "record<borrow<1>>"}[w.r.Intn(6)]
	}
	for {
		if s := anyPassable(w.r, 8).text(); len(s) < 60 {
			return s
		}
	}
}

// there: a place where something of a type was laid, or nearly.
func (w *lineWriter) there() laidThere {
	if len(w.laid) == 0 || w.r.Intn(12) == 0 {
		return laidThere{w.name(), w.r.Intn(40), w.typeText()}
	}
	x := w.laid[w.r.Intn(len(w.laid))]
	switch w.r.Intn(12) {
	case 0:
		x.name = w.name()
	case 1:
		x.at += w.r.Intn(5)
	case 2:
		x.kind = w.typeText()
	}
	return x
}

// Which lines are written: of all commands, mostly of values, mostly of things, of values alone in memories that stay small.
var linesOfKinds = [][]func(*lineWriter) string{
	{(*lineWriter).partLine, (*lineWriter).typeLine, (*lineWriter).layLine, (*lineWriter).layLine, (*lineWriter).liftLine, (*lineWriter).passLine, (*lineWriter).growLine, (*lineWriter).actLine, (*lineWriter).actLine, (*lineWriter).actLine, (*lineWriter).ownerLine, (*lineWriter).runLine, (*lineWriter).oddLine},
	{(*lineWriter).partLine, (*lineWriter).layLine, (*lineWriter).layLine, (*lineWriter).layLine, (*lineWriter).liftLine, (*lineWriter).liftLine, (*lineWriter).passLine, (*lineWriter).growLine, (*lineWriter).typeLine},
	{(*lineWriter).actLine, (*lineWriter).actLine, (*lineWriter).actLine, (*lineWriter).actLine, (*lineWriter).actLine, (*lineWriter).actLine, (*lineWriter).actLine, (*lineWriter).ownerLine, (*lineWriter).oddLine},
	{(*lineWriter).partLine, (*lineWriter).longLine, (*lineWriter).longLine, (*lineWriter).layLine, (*lineWriter).passLine, (*lineWriter).passLine, (*lineWriter).liftLine},
}

func (w *lineWriter) partLine() string {
	return fmt.Sprintf("part %s %d", someNames[w.r.Intn(len(someNames))], w.r.Intn(5))
}

func (w *lineWriter) typeLine() string { return "type " + w.typeText() }

func (w *lineWriter) layLine() string {
	kind := w.typeText()
	x, ok := treeOfText(kind)
	if !ok || w.r.Intn(16) == 0 {
		return fmt.Sprintf("lay %s %s %s", w.name(), kind, anyText(w.r))
	}
	for {
		if s := wantText(x, anyValue(w.r, x, 12)); len(s) < 100 {
			return fmt.Sprintf("lay %s %s %s", w.name(), kind, s)
		}
	}
}

func (w *lineWriter) longLine() string {
	return fmt.Sprintf("lay %s string \"%s\"", w.name(), text(60+w.r.Intn(40)))
}

func (w *lineWriter) liftLine() string {
	x := w.there()
	return fmt.Sprintf("lift %s %d %s", x.name, x.at, x.kind)
}

func (w *lineWriter) passLine() string {
	x := w.there()
	return fmt.Sprintf("pass %s %s %d %s", x.name, w.name(), x.at, x.kind)
}

func (w *lineWriter) growLine() string {
	return fmt.Sprintf("grow %s %d", w.name(), []int{0, 1, 2, 3, 8, 9}[w.r.Intn(6)])
}

func (w *lineWriter) actLine() string {
	mine, _ := myWorldFrom(w.m.world)
	a := anyAct(w.r, mine)
	a.Kind = w.acts[w.r.Intn(len(w.acts))]
	a.At = max(a.At, 0)
	switch a.Kind {
	case impl.DoMake:
		return fmt.Sprintf("make %d %d", a.Part, a.N)
	case impl.DoGive:
		return fmt.Sprintf("give %d %d %d %d", a.Part, a.At, a.To, a.N)
	case impl.DoLend:
		return fmt.Sprintf("lend %d %d %d %d", a.Part, a.At, a.To, a.N)
	case impl.DoDrop:
		return fmt.Sprintf("drop %d %d %d", a.Part, a.At, a.N)
	}
	return "end"
}

func (w *lineWriter) ownerLine() string {
	return fmt.Sprintf("owner %d", w.r.Intn(len(w.m.world.Things)+2))
}

func (w *lineWriter) runLine() string {
	l := hexModules()
	return fmt.Sprintf("run %s %d %d", l[w.r.Intn(len(l))], w.r.Intn(12), []int{0, 1, 5, 300, 999999999}[w.r.Intn(5)])
}

func (w *lineWriter) oddLine() string { return spoiltLine(w.r, w.actLine()) }

// next: one more line, done.
func (w *lineWriter) next() string {
	line := strings.ReplaceAll(w.kinds[w.r.Intn(len(w.kinds))](w), "\n", "")
	answer := w.m.do(line)
	if place, ok := strings.CutPrefix(answer, "at "); ok {
		words := strings.SplitN(line, " ", 5)
		x := laidThere{words[1], numeral(place), words[2]}
		if words[0] == "pass" {
			x = laidThere{words[2], numeral(place), words[4]}
		}
		w.laid = append(w.laid, x)
	}
	return line
}

// anyScript: lines of all commands, at most so many, as far as they go into a script; now and then one spoilt.
func anyScript(r *rand.Rand, most int) []string {
	w := &lineWriter{r: r, m: newLines(), kinds: linesOfKinds[r.Intn(4)], acts: [][]int{manyMade, manyGiven, manyLent, allAlike}[r.Intn(4)]}
	lines := []string{}
	size := 0
	for len(lines) < most {
		line := w.next()
		if size += len(line) + 1; size > mostScript {
			break
		}
		lines = append(lines, line)
	}
	return lines
}

func scriptOf(lines []string) string {
	var s string
	for _, line := range lines {
		s += line + "\n"
	}
	return s
}

// spoiltLine: something in it changed, mostly so that it is of no form.
func spoiltLine(r *rand.Rand, s string) string {
	l := []string{" ", "  ", "0", "00", "-", "+", "1", "x", "9999999999", "\x00", "\xff", "\t", "\r", "E"}
	at := r.Intn(len(s) + 1)
	switch r.Intn(4) {
	case 0:
		return s[:at]
	case 1:
		return s[:at] + s[min(len(s), at+1):]
	}
	return s[:at] + l[r.Intn(len(l))] + s[at:]
}
