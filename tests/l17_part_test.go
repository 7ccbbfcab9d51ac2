package tests

import (
	"encoding/hex"
	"math/rand"
	"slices"
	"strings"
	"testing"

	"loop.example/g00209/impl"
)

// checkPassed holds PassValue against the test's own; what was passed is the same on the other side, and all else stays.
func checkPassed(t *testing.T, from impl.Part, to impl.Part, types []impl.TypeNode, at int) (impl.Part, int, int) {
	t.Helper()
	kept := slices.Clone(types)
	got, place, code := impl.PassValue(from, to, types, at)
	if want, wantPlace, wantCode := wantPassed(from, to, kept, at); got != want || place != wantPlace || code != wantCode {
		t.Fatalf("PassValue(%s, %s, %s, %d) = %s, %d, %d; want %s, %d, %d", partText(from), partText(to), short(kept), at, partText(got), place, code, partText(want), wantPlace, wantCode)
	}
	if !slices.Equal(types, kept) {
		t.Fatalf("types are %v, were %v", types, kept)
	}
	if code != impl.PassOk {
		return got, place, code
	}
	here, _ := impl.LiftValue(from.Heap.Memory, types, at, from.Code)
	there, fault := impl.LiftValue(got.Heap.Memory, types, place, got.Code)
	if same, ok := impl.SameValue(types, here, there); fault != impl.LowerOk || !same || !ok {
		t.Fatalf("%s of %s is %s in %s, %d", short(here), partText(from), short(there), partText(got), fault)
	}
	checkOutside(t, to.Heap, got.Heap, place)
	return got, place, code
}

// checkWordsPassed: the same of PassWords.
func checkWordsPassed(t *testing.T, from impl.Part, to impl.Part, types []impl.TypeNode, words []impl.Word) (impl.Part, []impl.Word, int) {
	t.Helper()
	kept, keptWords := slices.Clone(types), slices.Clone(words)
	got, row, code := impl.PassWords(from, to, types, words)
	if want, wantRow, wantCode := wantWordsPassed(from, to, kept, keptWords); got != want || !slices.Equal(row, wantRow) || code != wantCode {
		t.Fatalf("PassWords(%s, %s, %s, %s) = %s, %s, %d; want %s, %s, %d", partText(from), partText(to), short(kept), wordsText(keptWords), partText(got), wordsText(row), code, partText(want), wordsText(wantRow), wantCode)
	}
	if !slices.Equal(types, kept) || !slices.Equal(words, keptWords) {
		t.Fatalf("types are %v, were %v; words are %v, were %v", types, kept, words, keptWords)
	}
	if code != impl.PassOk {
		return got, row, code
	}
	here, _ := impl.LiftFlat(from.Heap.Memory, types, words, from.Code)
	there, fault := impl.LiftFlat(got.Heap.Memory, types, row, got.Code)
	if same, ok := impl.SameValue(types, here, there); fault != impl.LowerOk || !same || !ok {
		t.Fatalf("%s of %s is %s in %s, %d", short(here), partText(from), short(there), partText(got), fault)
	}
	checkOutside(t, to.Heap, got.Heap, to.Heap.Next)
	return got, row, code
}

// checkGuards holds EnterPart and ExitPart against the test's own, alone and one behind the other.
func checkGuards(t *testing.T, p impl.Part) {
	t.Helper()
	entered, code := impl.EnterPart(p)
	if want, wantCode := wantEntered(p); entered != want || code != wantCode {
		t.Fatalf("EnterPart(%s) = %s, %d; want %s, %d", partText(p), partText(entered), code, partText(want), wantCode)
	}
	exited, code := impl.ExitPart(p)
	if want, wantCode := wantExited(p); exited != want || code != wantCode {
		t.Fatalf("ExitPart(%s) = %s, %d; want %s, %d", partText(p), partText(exited), code, partText(want), wantCode)
	}
	if !wantPart(p) {
		return
	}
	// Whatever was told, who is inside is not entered, and who is not does not leave.
	if again, code := impl.EnterPart(entered); again != entered || code != impl.PassGuard {
		t.Fatalf("%s is entered: %s, %d", partText(entered), partText(again), code)
	}
	if again, code := impl.ExitPart(exited); again != exited || code != impl.PassGuard {
		t.Fatalf("%s is left: %s, %d", partText(exited), partText(again), code)
	}
	back, code := impl.ExitPart(entered)
	if p.Inside, p.Leave = false, true; back != p || code != impl.PassOk {
		t.Fatalf("%s is left as %s, %d", partText(entered), partText(back), code)
	}
}

// checkThrough holds CallThrough against the test's own, and against PassValue, param by param.
func checkThrough(t *testing.T, from impl.Part, to impl.Part, s impl.Signature, args []int) (impl.Part, []int, int) {
	t.Helper()
	params, kept := slices.Clone(s.Params), slices.Clone(args)
	got, places, code := impl.CallThrough(from, to, s, args)
	if want, wantPlaces, wantCode := wantThrough(from, to, s, kept); got != want || !slices.Equal(places, wantPlaces) || code != wantCode {
		t.Fatalf("CallThrough(%s, %s, %s, %v) = %s, %v, %d; want %s, %v, %d", partText(from), partText(to), short(s), kept, partText(got), places, code, partText(want), wantPlaces, wantCode)
	}
	if !slices.Equal(s.Params, params) || !slices.Equal(args, kept) {
		t.Fatalf("an argument has changed: %v, was %v; %v, was %v", s.Params, params, args, kept)
	}
	if code != impl.PassOk {
		return got, places, code
	}
	own := to
	for i, text := range s.Params {
		types, _ := impl.ReadType(text)
		next, place, fault := impl.PassValue(from, own, types, args[i])
		if fault != impl.PassOk || place != places[i] {
			t.Fatalf("param %d of %v: %d, %d; CallThrough has it at %d", i, s, place, fault, places[i])
		}
		own = next
	}
	if own, _ = impl.EnterPart(own); own != got {
		t.Fatalf("CallThrough(%s, %s, %s, %v) = %s; param by param %s", partText(from), partText(to), short(s), args, partText(got), partText(own))
	}
	return got, places, code
}

func checkSubtype(t *testing.T, a impl.Signature, b impl.Signature, want bool, wantOk bool) {
	t.Helper()
	keptA, keptB := slices.Clone(a.Params), slices.Clone(b.Params)
	may, ok := impl.SubtypeOf(a, b)
	if is, good := wantSubtype(a, b); may != want || ok != wantOk || is != want || good != wantOk {
		t.Errorf("SubtypeOf(%s, %s) = %t, %t; want %t, %t", short(a), short(b), may, ok, want, wantOk)
	}
	if !slices.Equal(a.Params, keptA) || !slices.Equal(b.Params, keptB) {
		t.Errorf("an argument has changed: %v, %v", a, b)
	}
}

// Promise 17: the constants, as the document has them.
func TestPassConstants(t *testing.T) {
	if got := []int{impl.PassOk, impl.PassBad, impl.PassLift, impl.PassLower, impl.PassGuard}; !slices.Equal(got, []int{0, 1, 2, 3, 4}) {
		t.Error(got)
	}
}

// Promise 17: values as they lie in the one part and in the other, byte by byte.
func TestPassedWrittenOut(t *testing.T) {
	const u8, u16, compact = impl.CodeUtf8, impl.CodeUtf16, impl.CodeLatin
	for _, c := range []struct {
		kind     string
		from     int
		hex      string
		at       int
		to, next int
		place    int
		laid     string
	}{
		{"u8", u8, "7f", 0, u8, 1, 1, "7f"}, {"u16", u16, "eeee3412", 2, compact, 0, 0, "3412"}, {"u64", u8, "eeeeeeeeeeeeeeee0102030405060708", 8, u8, 3, 8, "0102030405060708"},
		{"string", u8, "0800000002000000c3a4", 0, compact, 0, 0, "0800000001000000e4"}, {"string", u8, "0800000002000000c3a4", 0, u16, 0, 0, "0800000001000000e400"}, {"string", compact, "0800000001000000e4", 0, u8, 0, 0, "0800000002000000c3a4"}, {"string", u16, "0800000001000000e400", 0, compact, 3, 4, "0c00000001000000e4"},
		{"string", u8, "0800000003000000e282ac", 0, compact, 0, 0, "0800000001000080ac20"}, {"string", compact, "0800000001000080ac20", 0, u8, 0, 0, "0800000003000000e282ac"}, {"string", u16, "0800000002000000" + "3dd800de", 0, u8, 0, 0, "0800000004000000f09f9880"}, {"string", u8, "0800000004000000f09f9880", 0, compact, 0, 0, "08000000020000803dd800de"},
		{"string", u8, "0000000000000000", 0, u16, 0, 0, "0800000000000000"}, {"list<u64>", u8, "0000000000000000", 0, u16, 0, 0, "0800000000000000"}, {"list<u16>", u8, "0e000000020000000000000000000100ff00", 0, u8, 1, 4, "0c000000020000000100ff00"},
		// What lies one before the other may lie one behind the other then.
		{"record<string,string>", u8, "1000000001000000" + "1000000002000000" + "6162", 0, u8, 0, 0, "1000000001000000" + "1100000002000000" + "616162"}, {"list<list<u8>>", u8, "0000000001000000", 0, u8, 0, 0, "0800000001000000" + "1000000001000000" + "00"},
		// What no value has goes not with it: bytes between, what is left of a case, bits of a bool, of flags and of no number.
		{"record<u8,u32>", u8, "01eeeeee02000000", 0, u8, 0, 0, "0100000002000000"}, {"option<u32>", u8, "00eeeeeeeeeeeeee", 0, u8, 0, 0, "0000000000000000"}, {"variant<u8,u32>", u8, "00eeeeee07eeeeee", 0, u8, 0, 0, "0000000007000000"}, {"option<string>", u8, "00eeeeeeffffffffffffffff", 0, u8, 0, 0, "000000000000000000000000"},
		{"bool", u8, "80", 0, u8, 0, 0, "01"}, {"flags<3>", u8, "fd", 0, u8, 0, 0, "05"}, {"f32", u8, "010080ff", 0, u8, 0, 0, "0000c07f"}, {"f32", u8, "000080ff", 0, u8, 0, 0, "000080ff"}, {"result<f32,u8>", u8, "00eeeeee010080ff", 0, u8, 0, 0, "000000000000c07f"},
	} {
		x := typeTold(c.kind)
		b, _ := hex.DecodeString(c.hex)
		from, to := partOf(impl.Heap{Memory: memoryWith(0, string(b))}, c.from), partOf(filledHeap(1, 0xee, c.next), c.to)
		got, place, code := checkPassed(t, from, to, x.nodes(), c.at)
		if laid := hex.EncodeToString([]byte(got.Heap.Memory.Data[place:got.Heap.Next])); place != c.place || code != impl.PassOk || laid != c.laid {
			t.Errorf("%+v: %d, %d, %s", c, place, code, laid)
		}
	}
}

// Promise 17: the values of chapter 13's tests, from each code and to the one that they are written out in: where they came
// from is not seen.
func TestPassedAsLaid(t *testing.T) {
	for _, c := range laidOuts() {
		x := typeTold(c.kind)
		l, ok := impl.ReadValue(x.nodes(), c.value)
		if !ok {
			t.Fatal("meant to be read:", c.kind, c.value)
		}
		to := partOf(filledHeap(1, 0xee, c.next), c.code)
		for _, code := range threeCodes {
			for _, h := range []impl.Heap{heapOf(1, 0), heapOf(2, 77), filledHeap(3, 0xff, 300)} {
				from, at, _ := laidIn(partOf(h, code), x, l)
				got, place, fault := checkPassed(t, from, to, x.nodes(), at)
				if fault != impl.PassOk || place != c.place || got.Heap.Next != c.after || hex.EncodeToString([]byte(got.Heap.Memory.Data[place:got.Heap.Next])) != c.hex {
					t.Errorf("%+v from code %d: %x, %d, %d, %d", c, code, got.Heap.Memory.Data[place:got.Heap.Next], place, got.Heap.Next, fault)
				}
			}
		}
	}
}

// Promise 17: values of every kind at their edges, from each code to each.
func TestPassedOfEachKind(t *testing.T) {
	each := func(x typeTree, v valueTree) {
		t.Helper()
		for _, code := range threeCodes {
			from, at, ok := laidIn(partOf(heapOf(8, 5), code), x, v.nodes())
			for _, other := range threeCodes {
				if _, _, fault := checkPassed(t, from, partOf(heapOf(8, 9), other), x.nodes(), at); !ok || fault != impl.PassOk {
					t.Errorf("%s of %s from code %d to %d: %d", wantText(x, v), x.text(), code, other, fault)
				}
			}
		}
	}
	for _, x := range plainTypes() {
		x = handless(x)
		if x.kind == impl.KindString {
			continue
		}
		for _, n := range valueEdges {
			if wantNumber(x, n) {
				each(x, number(n))
			}
		}
		each(tree("list", x), gathered(wantZero(x), wantZero(x)))
		each(tree("option", x), number(0))
		each(tree("variant", tree("string"), x), number(1, wantZero(x)))
	}
	for _, s := range someStrings() {
		each(tree("string"), written(s))
		each(tree("list", tree("string")), gathered(written(s), written("\u20ac"), written(s)))
		each(tree("record", tree("u8"), tree("string"), tree("option", tree("string"))), gathered(number(9), written(s), number(1, written(s))))
		each(tree("result", tree("u64"), tree("string")), number(1, written(s)))
	}
}

// Promise 17: a value is the same on the other side whatever lies about it, in whatever code, wherever.
func TestPassedFromAnywhere(t *testing.T) {
	r := rand.New(rand.NewSource(201))
	passed := 0
	for range 5000 {
		x := anyPassable(r, 20)
		l := anyValue(r, x, 20).nodes()
		to := anyPart(r)
		one, at, ok := laidIn(roomyPart(r), x, l)
		second := roomyPart(r)
		second.Heap = filledHeap(7, byte(r.Intn(256)), r.Intn(200))
		two, other, also := laidIn(second, x, l)
		if !ok || !also {
			continue
		}
		// Who they are, and whether they may be entered or left, is not looked at either.
		two.Inside, two.Leave = r.Intn(2) == 0, r.Intn(2) == 0
		got, place, code := checkPassed(t, one, to, x.nodes(), at)
		if again, also, same := checkPassed(t, two, to, x.nodes(), other); again != got || also != place || same != code || code != impl.PassOk && code != impl.PassLower {
			t.Fatalf("%s of %s: from %s %d, %d; from %s %d, %d", short(l), x.text(), partText(one), place, code, partText(two), also, same)
		}
		if back, fault := impl.LiftValue(got.Heap.Memory, x.nodes(), place, to.Code); code == impl.PassOk && (fault != impl.LowerOk || !slices.Equal(back, l)) {
			t.Fatalf("%s of %s comes as %s", short(l), x.text(), short(back))
		}
		if code == impl.PassOk {
			passed++
		}
	}
	if passed < 2000 {
		t.Error("too few were passed:", passed)
	}
}

// Promise 17: so it is of words.
func TestWordsPassedFromAnywhere(t *testing.T) {
	r := rand.New(rand.NewSource(208))
	passed := 0
	for range 5000 {
		x := anyFew(r, 20, 8)
		l := anyValue(r, x, 20).nodes()
		to := anyPart(r)
		one, words, ok := wordedIn(roomyPart(r), x, l)
		second := roomyPart(r)
		second.Heap = filledHeap(7, byte(r.Intn(256)), r.Intn(200))
		two, row, also := wordedIn(second, x, l)
		if !ok || !also {
			continue
		}
		two.Inside, two.Leave = r.Intn(2) == 0, r.Intn(2) == 0
		got, told, code := checkWordsPassed(t, one, to, x.nodes(), words)
		if again, also, same := checkWordsPassed(t, two, to, x.nodes(), row); again != got || !slices.Equal(also, told) || same != code || code != impl.PassOk && code != impl.PassLower {
			t.Fatalf("%s of %s: from %s %s, %d; from %s %s, %d", short(l), x.text(), partText(one), wordsText(told), code, partText(two), wordsText(also), same)
		}
		if back, fault := impl.LiftFlat(got.Heap.Memory, x.nodes(), told, to.Code); code == impl.PassOk && (fault != impl.LowerOk || !slices.Equal(back, l)) {
			t.Fatalf("%s of %s comes as %s", short(l), x.text(), short(back))
		}
		if code == impl.PassOk {
			passed++
		}
	}
	if passed < 2000 {
		t.Error("too few were passed:", passed)
	}
}

// Promise 17: what is passed on and on, from code to code, is what it was.
func TestPassedOn(t *testing.T) {
	r := rand.New(rand.NewSource(202))
	for range 500 {
		x := anyPassable(r, 12)
		l := anyValue(r, x, 12).nodes()
		p, at, ok := laidIn(roomyPart(r), x, l)
		for range 6 {
			if !ok {
				break
			}
			next := roomyPart(r)
			var code int
			p, at, code = checkPassed(t, p, next, x.nodes(), at)
			ok = code == impl.PassOk
		}
		if back, _ := impl.LiftValue(p.Heap.Memory, x.nodes(), at, p.Code); ok && !slices.Equal(back, l) {
			t.Fatalf("%s of %s comes as %s", short(l), x.text(), short(back))
		}
	}
}

// Promise 17: any places of any parts.
func TestAnyPassed(t *testing.T) {
	r := rand.New(rand.NewSource(203))
	var codes [5]int
	for range 15000 {
		x := anyPassable(r, 30)
		l := anyValue(r, x, []int{5, 20, 100}[r.Intn(3)]).nodes()
		from, at, ok := laidIn(anyPart(r), x, l)
		if !ok || r.Intn(4) == 0 {
			at = r.Intn(64)
		}
		_, _, code := checkPassed(t, from, anyPart(r), x.nodes(), at)
		codes[code]++
		if r.Intn(8) == 0 {
			_, _, code := checkPassed(t, from, from, x.nodes(), at)
			codes[code]++
		}
	}
	if codes[impl.PassOk] < 3000 || codes[impl.PassLift] < 1000 || codes[impl.PassLower] < 300 || codes[impl.PassBad]+codes[impl.PassGuard] > 0 {
		t.Error("too few of one code:", codes)
	}
}

// Promise 17: the words of chapter 14's tests, from each code to the one that they are written out in.
func TestWordsPassedAsTold(t *testing.T) {
	for _, c := range flatOuts() {
		x := typeTold(c.kind)
		l, ok := impl.ReadValue(x.nodes(), c.value)
		if !ok {
			t.Fatal("meant to be read:", c.kind, c.value)
		}
		to := partOf(filledHeap(1, 0xee, c.next), c.code)
		for _, code := range threeCodes {
			for _, h := range []impl.Heap{heapOf(1, 0), heapOf(2, 77)} {
				from, words, _ := wordedIn(partOf(h, code), x, l)
				got, row, fault := checkWordsPassed(t, from, to, x.nodes(), words)
				if fault != impl.PassOk || !slices.Equal(row, wordsOf(c.words)) || hex.EncodeToString([]byte(got.Heap.Memory.Data[c.next:got.Heap.Next])) != c.hex {
					t.Errorf("%+v from code %d: %s, %x, %d", c, code, wordsText(row), got.Heap.Memory.Data[c.next:got.Heap.Next], fault)
				}
			}
		}
	}
}

// Promise 17: words as they come in and as they go out: what no value has does not go with it.
func TestWordsPassedWrittenOut(t *testing.T) {
	for _, c := range []struct{ kind, words, told string }{
		{"u8", "i:511", "i:255"}, {"s8", "i:255", "i:4294967295"}, {"s16", "i:98304", "i:4294934528"}, {"bool", "i:7", "i:1"}, {"flags<3>", "i:15", "i:7"}, {"f32", "f:4286578689", "f:2143289344"}, {"f32", "f:4286578688", "f:4286578688"}, {"u64", "I:-1", "I:-1"},
		{"option<u64>", "i:0 I:-1", "i:0 I:0"}, {"option<string>", "i:0 i:-1 i:-1", "i:0 i:0 i:0"}, {"variant<u8,record<u64,f32>>", "i:0 I:-1 f:9", "i:0 I:255 f:0"}, {"result<f32,u64>", "i:0 I:-1", "i:0 I:2143289344"},
		// A text of two bytes, and a list of the same bytes.
		{"string", "i:0 i:2", "i:8 i:1"}, {"list<u8>", "i:0 i:2", "i:7 i:2"}, {"record<u8,string>", "i:1 i:0 i:2", "i:1 i:8 i:1"}, {"string", "i:256 i:0", "i:8 i:0"}, {"list<u16>", "i:256 i:0", "i:8 i:0"}, {"list<u8>", "i:256 i:0", "i:7 i:0"},
	} {
		x := typeTold(c.kind)
		from, to := partOf(impl.Heap{Memory: memoryWith(0, "\xc3\xa4")}, impl.CodeUtf8), partOf(filledHeap(1, 0xee, 7), impl.CodeLatin)
		if _, row, code := checkWordsPassed(t, from, to, x.nodes(), wordsOf(c.words)); !slices.Equal(row, wordsOf(c.told)) || code != impl.PassOk {
			t.Errorf("%+v: %s, %d", c, wordsText(row), code)
		}
	}
}

// Promise 17: any words of any parts.
func TestAnyWordsPassed(t *testing.T) {
	r := rand.New(rand.NewSource(204))
	var codes [5]int
	for i := range 15000 {
		x := anyFew(r, 30, 8)
		if i%8 == 0 {
			x = anyPassable(r, 40)
		}
		l := anyValue(r, x, []int{5, 20, 100}[r.Intn(3)]).nodes()
		from, words, ok := wordedIn(anyPart(r), x, l)
		if !ok {
			words = wordsIn(x, make([]uint64, len(wantFlat(x))))
		}
		if r.Intn(3) == 0 {
			words = spoiltWords(r, words)
		}
		_, _, code := checkWordsPassed(t, from, anyPart(r), x.nodes(), words)
		codes[code]++
	}
	if codes[impl.PassOk] < 3000 || codes[impl.PassBad] < 1000 || codes[impl.PassLift] < 300 || codes[impl.PassLower] < 300 || codes[impl.PassGuard] > 0 {
		t.Error("too few of one code:", codes)
	}
}

// Promise 17: a part is entered and left, one behind the other; who is inside is not entered.
func TestEnterAndExit(t *testing.T) {
	for _, inside := range []bool{false, true} {
		for _, leave := range []bool{false, true} {
			for _, code := range threeCodes {
				p := impl.Part{Name: "a-1", Heap: heapOf(2, 300), Code: code, Inside: inside, Leave: leave}
				checkGuards(t, p)
				entered, fault := impl.EnterPart(p)
				if inside && (entered != p || fault != impl.PassGuard) || !inside && (!entered.Inside || entered.Leave || fault != impl.PassOk) {
					t.Errorf("EnterPart(%s) = %s, %d", partText(p), partText(entered), fault)
				}
				exited, fault := impl.ExitPart(p)
				if !inside && (exited != p || fault != impl.PassGuard) || inside && (exited.Inside || !exited.Leave || fault != impl.PassOk) {
					t.Errorf("ExitPart(%s) = %s, %d", partText(p), partText(exited), fault)
				}
			}
		}
	}
	r := rand.New(rand.NewSource(205))
	for range 2000 {
		p := anyPart(r)
		checkGuards(t, p)
		inside := p.Inside
		for range 8 {
			var code int
			if enter := r.Intn(2) == 0; enter {
				p, code = impl.EnterPart(p)
				if (code == impl.PassOk) == inside || code != impl.PassOk && code != impl.PassGuard || !p.Inside {
					t.Fatalf("EnterPart: %s, %d", partText(p), code)
				}
				inside = true
			} else {
				p, code = impl.ExitPart(p)
				if (code == impl.PassOk) != inside || code != impl.PassOk && code != impl.PassGuard || p.Inside {
					t.Fatalf("ExitPart: %s, %d", partText(p), code)
				}
				inside = false
			}
		}
	}
}

// Promise 17: calls of 0 to 6 params: the params are the same on the other side, which is Inside then.
func TestCallsThrough(t *testing.T) {
	r := rand.New(rand.NewSource(206))
	var called [7]int
	for range 4000 {
		many := r.Intn(7)
		c := anyLaidFor(r, roomyPart(r), many)
		to := roomyPart(r)
		to.Leave = r.Intn(2) == 0
		c.from.Inside = r.Intn(2) == 0
		got, places, code := checkThrough(t, c.from, to, c.sign, c.args)
		if code != impl.PassOk {
			continue
		}
		called[many]++
		if !got.Inside || got.Leave || len(places) != many || !slices.IsSorted(places) {
			t.Fatalf("%s, %v", partText(got), places)
		}
		for i, x := range c.types {
			if back, fault := impl.LiftValue(got.Heap.Memory, x.nodes(), places[i], got.Code); fault != impl.LowerOk || !slices.Equal(back, c.values[i]) {
				t.Fatalf("param %d, %s of %s, comes as %s, %d", i, short(c.values[i]), x.text(), short(back), fault)
			}
		}
		// A part that is inside is not entered, and does not leave.
		if _, _, code := checkThrough(t, c.from, got, c.sign, c.args); code != impl.PassGuard {
			t.Fatalf("a part that is inside is entered: %d", code)
		}
		if _, _, code := checkThrough(t, got, c.from, signatureOf("", ""), nil); code != impl.PassGuard {
			t.Fatalf("a part that may not leave calls: %d", code)
		}
		out, _ := impl.ExitPart(got)
		if _, _, code := checkThrough(t, c.from, out, signatureOf("", ""), nil); code != impl.PassOk {
			t.Fatalf("a part that was left is not entered: %d", code)
		}
	}
	if slices.Min(called[:]) < 200 {
		t.Error("too few were called:", called)
	}
}

// Promise 17: a call written out: each param where the ones ahead of it end, in another code.
func TestCallsThroughWrittenOut(t *testing.T) {
	from := partOf(impl.Heap{Memory: memoryWith(0, "\x10\x00\x00\x00\x03\x00\x00\x00\x07\x01\x00\x00\x00\x00\x00\x00\xe2\x82\xac")}, impl.CodeUtf8)
	for _, c := range []struct {
		params string
		args   []int
		places []int
		next   int
		laid   string
	}{
		{"", nil, nil, 3, ""}, {"u8", []int{8}, []int{3}, 4, "07"}, {"u8 u8", []int{8, 8}, []int{3, 4}, 5, "0707"}, {"string", []int{0}, []int{4}, 14, "ee" + "0c00000001000000" + "ac20"},
		{"u8 string u16", []int{8, 0, 8}, []int{3, 4, 14}, 16, "07" + "0c00000001000000" + "ac20" + "0701"}, {"string string", []int{0, 0}, []int{4, 16}, 26, "ee" + "0c00000001000000" + "ac20" + "eeee" + "1800000001000000" + "ac20"},
		{"bool u8 bool u8 bool u8", []int{9, 9, 10, 10, 0, 0}, []int{3, 4, 5, 6, 7, 8}, 9, "010100000110"}, {"list<bool> option<u8>", []int{0, 10}, []int{4, 15}, 17, "ee" + "0c00000003000000" + "010101" + "0000"},
	} {
		to := partOf(filledHeap(1, 0xee, 3), impl.CodeUtf16)
		got, places, code := checkThrough(t, from, to, signatureOf(c.params, "u8"), c.args)
		if laid := hex.EncodeToString([]byte(got.Heap.Memory.Data[3:got.Heap.Next])); !slices.Equal(places, c.places) || code != impl.PassOk || got.Heap.Next != c.next || laid != c.laid {
			t.Errorf("%+v: %v, %d, %d, %s", c, places, code, got.Heap.Next, laid)
		}
	}
}

// Promise 17: signatures that are the same, and such that part in one Param, in their number, in their order or in their Result.
func TestSubtypes(t *testing.T) {
	for _, params := range []string{"", "u8", "u8 u8", "string list<u8> u64", "record<u8,string> option<u8> result<u8,u16> variant<u8> flags<3> enum<300>"} {
		for _, result := range []string{"", "u8", "list<string>"} {
			a := signatureOf(params, result)
			checkSubtype(t, a, signatureOf(params, result), true, true)
			for i, p := range a.Params {
				for _, other := range []string{"s8", "u16", "option<u8>", "list<list<u8>>", "record<u8,string,u8>", "enum<299>", "flags<4>"} {
					b := signatureOf(params, result)
					if b.Params[i] = other; other != p {
						checkSubtype(t, a, b, false, true)
						checkSubtype(t, b, a, false, true)
					}
				}
				b := signatureOf(params, result)
				b.Params = slices.Delete(b.Params, i, i+1)
				checkSubtype(t, a, b, false, true)
				checkSubtype(t, b, a, false, true)
			}
			for _, other := range []string{"", "u8", "s8", "list<string>", "list<u8>"} {
				checkSubtype(t, a, signatureOf(params, other), other == result, true)
			}
		}
	}
	// The same, but in another order; the Result as a Param.
	checkSubtype(t, signatureOf("u8 u16", ""), signatureOf("u16 u8", ""), false, true)
	checkSubtype(t, signatureOf("u8", "u16"), signatureOf("u8 u16", ""), false, true)
	checkSubtype(t, signatureOf("", "u8"), signatureOf("u8", ""), false, true)
	checkSubtype(t, impl.Signature{}, impl.Signature{Params: []string{}}, true, true)
	r := rand.New(rand.NewSource(207))
	same := 0
	for range 3000 {
		small := func() impl.Signature {
			s := signatureOf(strings.Repeat("u8 ", r.Intn(3)), []string{"", "u8"}[r.Intn(2)])
			if len(s.Params) > 0 && r.Intn(3) == 0 {
				s.Params[r.Intn(len(s.Params))] = []string{"u16", "own<1>", ""}[r.Intn(3)]
			}
			return s
		}
		a, b := small(), small()
		may, ok := wantSubtype(a, b)
		checkSubtype(t, a, b, may, ok)
		if may {
			same++
		}
	}
	if same < 300 {
		t.Error("too few were the same:", same)
	}
}
