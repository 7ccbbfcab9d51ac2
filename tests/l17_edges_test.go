package tests

import (
	"math"
	"math/rand"
	"slices"
	"strings"
	"testing"

	"loop.example/g00209/impl"
)

// Promise 17: names of 0, 1, 20 and 21 bytes, and of each byte, at each end and between.
func TestPartNames(t *testing.T) {
	p := partOf(heapOf(1, 5), impl.CodeUtf8)
	check := func(name string, good bool) {
		t.Helper()
		if p.Name = name; impl.GoodPart(p) != good || wantPart(p) != good {
			t.Errorf("GoodPart named %.40q is %t", name, !good)
		}
	}
	for n := range 40 {
		for _, letter := range []string{"a", "z", "0", "9", "-"} {
			check(strings.Repeat(letter, n), n >= 1 && n <= 20)
		}
	}
	check(strings.Repeat("a", 1<<20), false)
	for b := range 256 {
		letter := string([]byte{byte(b)})
		good := b >= 'a' && b <= 'z' || b >= '0' && b <= '9' || b == '-'
		for _, name := range []string{letter, letter + letter, letter + "a", "a" + letter, "ab" + letter + "cd", strings.Repeat("-", 19) + letter, letter + strings.Repeat("9", 19)} {
			check(name, good)
		}
		check(strings.Repeat("a", 20)+letter, false)
	}
	for _, name := range []string{"\u00e4", "a\u00df", "\uff41", "\u0660", "a\xcc\x88", "\u2010", "\xff", "a b", "ab\n", "\nab"} {
		check(name, false)
	}
}

// Promise 17: codes and heaps of parts; whether it is Inside or may leave does not count.
func TestGoodParts(t *testing.T) {
	for _, inside := range []bool{false, true} {
		for _, leave := range []bool{false, true} {
			for code, good := range map[int]bool{math.MinInt: false, -1: false, 0: false, 1: true, 2: true, 3: true, 4: false, 5: false, 1<<32 + 1: false, math.MaxInt: false} {
				for _, h := range []impl.Heap{{}, {Memory: impl.Memory{Max: 8}}, heapOf(1, 0), heapOf(1, 256), heapOf(8, 2048)} {
					if p := (impl.Part{Name: "p", Heap: h, Code: code, Inside: inside, Leave: leave}); impl.GoodPart(p) != good {
						t.Errorf("%s: good is %t", partText(p), !good)
					}
				}
			}
			for _, p := range badParts() {
				if p.Inside, p.Leave = inside, leave; impl.GoodPart(p) || wantPart(p) {
					t.Errorf("%s is good", partText(p))
				}
			}
		}
	}
	if impl.GoodPart(impl.Part{}) {
		t.Error("the zero part is good")
	}
}

// Promise 17: signatures of up to 6 Params and more, each at each place no type, one with handles, or told otherwise.
func TestGoodSignatures(t *testing.T) {
	check := func(s impl.Signature, good bool) {
		t.Helper()
		if impl.GoodSignature(s) != good || wantSignature(s) != good {
			t.Errorf("GoodSignature(%s) is %t", short(s), !good)
		}
		checkSubtype(t, s, s, good, good)
		checkSubtype(t, s, impl.Signature{}, good && len(s.Params) == 0 && s.Result == "", good)
		checkSubtype(t, impl.Signature{}, s, good && len(s.Params) == 0 && s.Result == "", good)
	}
	deep, wide := within("option", 7, tree("u8")).text(), ofWords(34).text()
	for _, result := range []string{"", "u8", "list<string>", deep, wide, ofWordsOver(41).text()} {
		for n := range 10 {
			check(signatureOf(strings.Repeat("record<u8,string> ", n), result), n <= 6)
		}
	}
	check(signatureOf(strings.Repeat("u8 ", 100000), ""), false)
	check(signatureOf(strings.Join([]string{"enum<300>", "flags<32>", deep, wide, "list<char>", "variant<u8>"}, " "), ""), true)
	bad := []string{
		"own<0>", "borrow<9>", "list<own<1>>", "record<u8,borrow<2>>", "option<list<own<3>>>", "variant<u8,own<1>>", "result<u8,borrow<1>>",
		" u8", "u8 ", "U8", "u8,", "u8,u8", "u 8", "u8\x00", "list<u8", "list< u8>", "list<>", "list", "record<u8, u8>", "record<>", "flags<08>", "flags<0>", "flags<33>", "flags<+3>", "enum<301>", "enum<0>", "own<10>", "u7", "f64", "i32", "none", "()", "-", "\xff",
		within("option", 8, tree("u8")).text(), tree("record", alike(tree("u8"), 9)...).text(), tree("record", alike(ofWords(20), 2)...).text(), strings.Repeat("list<", 100000),
	}
	for _, text := range append(bad, "") {
		for many := 1; many <= 6; many++ {
			for at := range many {
				s := signatureOf(strings.Repeat("u8 ", many), "u16")
				s.Params[at] = text
				check(s, false)
			}
		}
		check(impl.Signature{Params: []string{"u8"}, Result: text}, text == "")
		check(impl.Signature{Result: text}, text == "")
	}
	r := rand.New(rand.NewSource(211))
	good := 0
	for range 5000 {
		s := impl.Signature{Result: []string{"", anyTree(r, 10, 4).text()}[r.Intn(2)]}
		for range r.Intn(8) {
			x := anyTree(r, 1+r.Intn(10), 1+r.Intn(4))
			if r.Intn(3) > 0 {
				x = handless(x)
			}
			text := x.text()
			if r.Intn(8) == 0 {
				text = spoiltText(r, text)
			}
			s.Params = append(s.Params, text)
		}
		is := wantSignature(s)
		check(s, is)
		if is {
			good++
		}
	}
	if good < 1000 || good > 4000 {
		t.Error("too few of one kind:", good)
	}
}

// Promise 17: places at the edges of a memory and of numbers of 32 bits, by PassValue and by CallThrough.
func TestPassedPlaces(t *testing.T) {
	for kind, align := range map[string]int{"u8": 1, "bool": 1, "u16": 2, "u32": 4, "s64": 8, "record<u8>": 1, "record<u8,u64>": 8, "flags<9>": 2, "f32": 4} {
		x := typeTold(kind)
		size, _, _ := wantRoom(x)
		for _, bytes := range []int{0, 256, 2048} {
			from, to := partOf(filledHeap(bytes/256, 1, 0), impl.CodeUtf8), partOf(heapOf(1, 3), impl.CodeUtf16)
			for _, at := range append(placeEdges(bytes), 1<<32+8, -8, math.MinInt+8) {
				want := impl.PassOk
				switch {
				case at < 0 || at > math.MaxUint32:
					want = impl.PassBad
				case at%align != 0 || at+size > bytes:
					want = impl.PassLift
				}
				if got, place, code := checkPassed(t, from, to, x.nodes(), at); code != want || code != impl.PassOk && (got != to || place != 0) {
					t.Errorf("%s at %d of %d: %s, %d, %d; want code %d", kind, at, bytes, partText(got), place, code, want)
				}
				for many := 1; many <= 6; many += 5 {
					for k := range many {
						args := make([]int, many)
						if args[k] = at; bytes == 0 && k > 0 {
							continue
						}
						if got, places, code := checkThrough(t, from, to, signatureOf(strings.Repeat(kind+" ", many), ""), args); code != want || code != impl.PassOk && (got != to || len(places) > 0) {
							t.Errorf("%s at %d of %d as param %d: %s, %v, %d; want code %d", kind, at, bytes, k, partText(got), places, code, want)
						}
					}
				}
			}
		}
	}
}

// Promise 17: from each place of a memory on: as far as there is room.
func TestPassedIntoLittleRoom(t *testing.T) {
	for kind, s := range map[string]string{
		"u8": "1", "u64": "1", "string": `"abc"`, "list<u8>": "[1,2,3]", "list<string>": `["a","","\e2\82\ac"]`, "option<string>": `some:"abc"`, "record<u8,u32,list<u64>>": "(1,2,[3])", "variant<u8,list<list<u16>>>": "1:[[1],[],[2,3]]", "list<bool>": "[]",
	} {
		x := typeTold(kind)
		l, ok := impl.ReadValue(x.nodes(), s)
		if !ok {
			t.Fatal("meant to be read:", kind, s)
		}
		for _, code := range threeCodes {
			from, at, _ := laidIn(partOf(heapOf(2, 3), threeCodes[code%3]), x, l)
			worded, words, _ := wordedIn(partOf(heapOf(2, 3), threeCodes[code%3]), x, l)
			used, _ := wantUsed(x, l, code)
			passed, told := 0, 0
			for next := range 257 {
				to := partOf(heapOf(1, next), code)
				got, place, fault := checkPassed(t, from, to, x.nodes(), at)
				switch {
				case fault == impl.PassOk:
					passed = next
				case fault != impl.PassLower || got != to || place != 0:
					t.Errorf("%s from %d on: %s, %d, %d", kind, next, partText(got), place, fault)
				}
				if next%8 == 0 && (fault == impl.PassOk) != (next+used <= 256) {
					t.Errorf("%s, of %d bytes, from %d on: %d", kind, used, next, fault)
				}
				own, row, fault := checkWordsPassed(t, worded, to, x.nodes(), words)
				switch {
				case fault == impl.PassOk:
					told = next
				case fault != impl.PassLower || own != to || len(row) > 0:
					t.Errorf("words of %s from %d on: %s, %s, %d", kind, next, partText(own), wordsText(row), fault)
				}
			}
			if passed < 128 || passed > 255 || told < passed {
				t.Errorf("%s in code %d: passed up to %d, as words up to %d", kind, code, passed, told)
			}
		}
	}
	// A memory of no bytes has room for none.
	empty := partOf(impl.Heap{Memory: impl.Memory{Max: 8}}, impl.CodeUtf8)
	if got, _, code := checkPassed(t, partOf(heapOf(1, 0), impl.CodeUtf8), empty, tree("u8").nodes(), 0); got != empty || code != impl.PassLower {
		t.Errorf("a byte in no bytes: %d", code)
	}
	if _, row, code := checkWordsPassed(t, empty, empty, tree("u8").nodes(), wordsOf("i:7")); !slices.Equal(row, wordsOf("i:7")) || code != impl.PassOk {
		t.Errorf("a word needs no bytes: %d", code)
	}
}

// Promise 17: from the last place on from which there is room, to the memory's last byte; and with one byte less.
func TestPassedToTheLastByte(t *testing.T) {
	const u8, u16, compact = impl.CodeUtf8, impl.CodeUtf16, impl.CodeLatin
	for _, c := range []struct {
		kind, value string
		code, last  int
	}{
		{"u8", "1", u8, 255}, {"u16", "1", u8, 254}, {"u64", "1", u16, 248}, {"string", `"abcd"`, u8, 244}, {"string", `"ab"`, u16, 244}, {"string", `"abcd"`, compact, 244}, {"string", `"a\e2\82\ac"`, compact, 244},
		{"list<u64>", "[1]", u8, 240}, {"list<u8>", "[1,2,3,4]", u8, 244}, {"option<string>", `some:"abcd"`, u8, 240}, {"list<string>", `["abcd"]`, u8, 236}, {"record<u8,u32>", "(1,2)", u8, 248},
	} {
		x := typeTold(c.kind)
		l, ok := impl.ReadValue(x.nodes(), c.value)
		from, at, _ := laidIn(partOf(heapOf(1, 1), impl.CodeUtf16), x, l)
		if got, _, code := checkPassed(t, from, partOf(heapOf(1, c.last), c.code), x.nodes(), at); !ok || code != impl.PassOk || got.Heap.Next != 256 {
			t.Errorf("%+v: %d, to %d", c, code, got.Heap.Next)
		}
		if _, _, code := checkPassed(t, from, partOf(heapOf(1, c.last+1), c.code), x.nodes(), at); code != impl.PassLower {
			t.Errorf("%+v, one byte less: %d", c, code)
		}
	}
}

// Promise 17: what can not be taken up, and what there is no room for, in the first param and in later ones: to is as it was.
func TestFaultsOfParams(t *testing.T) {
	// At 16 a text that is none, at 24 a list of more nodes than may be, at 32 what is beyond the end, at 40 a char that is
	// none; at 48 a text of 200 bytes, at 8 a text of none.
	h := impl.Heap{Memory: memoryWith(8, "\x00\x00\x00\x00\x00\x00\x00\x00"+"\x20\x00\x00\x00\x01\x00\x00\x00"+"\x00\x00\x00\x00\x64\x00\x00\x00"+"\xff\xff\xff\xff\xff\xff\xff\xff"+"\x00\xd8\x00\x00\x00\x00\x11\x00"+"\x38\x00\x00\x00\xc8\x00\x00\x00")}
	from := partOf(h, impl.CodeUtf8)
	to := partOf(heapOf(1, 100), impl.CodeUtf16)
	type param struct {
		kind string
		at   int
		code int
	}
	good := []param{{"u8", 0, impl.PassOk}, {"string", 8, impl.PassOk}, {"option<u64>", 0, impl.PassOk}}
	faults := []param{
		{"string", 16, impl.PassLift}, {"list<u8>", 24, impl.PassLift}, {"string", 32, impl.PassLift}, {"list<u8>", 32, impl.PassLift}, {"char", 40, impl.PassLift}, {"char", 44, impl.PassLift}, {"enum<3>", 16, impl.PassLift}, {"option<u8>", 16, impl.PassLift}, {"result<u8,u8>", 24 + 4, impl.PassLift}, {"variant<u8,u8,u8>", 20 + 12, impl.PassLift}, {"u64", 4, impl.PassLift}, {"u8", 256, impl.PassLift}, {"u8", math.MaxUint32, impl.PassLift},
		{"string", 48, impl.PassLower}, {"record<string,u8>", 48, impl.PassLower}, {"u8", -1, impl.PassBad}, {"u8", 1 << 32, impl.PassBad},
	}
	for _, f := range faults {
		if got, place, code := checkPassed(t, from, to, typeTold(f.kind).nodes(), f.at); got != to || place != 0 || code != f.code {
			t.Errorf("%+v: %s, %d, %d", f, partText(got), place, code)
		}
	}
	for i, f := range append(faults, good...) {
		for k, other := range append(faults, good...) {
			first, guarded := f.code, impl.PassGuard
			if first == impl.PassOk {
				first = other.code
			}
			// A place that is none is ahead of all else, wherever it stands.
			if f.code == impl.PassBad || other.code == impl.PassBad {
				first, guarded = impl.PassBad, impl.PassBad
			}
			for _, row := range [][]param{{f, other}, {good[i%3], f, other}, {good[k%3], f, good[i%3], other, good[0], good[1]}} {
				var s impl.Signature
				var args []int
				for _, p := range row {
					s.Params, args = append(s.Params, p.kind), append(args, p.at)
				}
				// Of all other faults the first one is told, from the front.
				got, places, code := checkThrough(t, from, to, s, args)
				if code != first || code != impl.PassOk && (got != to || len(places) > 0) {
					t.Errorf("%v: %s, %v, %d; want %d", row, partText(got), places, code, first)
				}
				// Ahead of all that is met in params: who may not leave, and who is inside.
				bound, entered := from, to
				bound.Leave, entered.Inside = false, true
				for _, pair := range [][2]impl.Part{{bound, to}, {from, entered}, {bound, entered}} {
					if got, places, code := checkThrough(t, pair[0], pair[1], s, args); got != pair[1] || len(places) > 0 || code != guarded {
						t.Errorf("%v: %s, %v, %d; want %d", row, partText(got), places, code, guarded)
					}
				}
			}
		}
	}
	// Room that is left by the first params and lacks for a later one.
	for many := range 7 {
		tight := partOf(heapOf(1, 256-4*8), impl.CodeUtf8)
		got, places, code := checkThrough(t, from, tight, signatureOf(strings.Repeat("u64 ", many), ""), make([]int, many))
		if many <= 4 && (code != impl.PassOk || len(places) != many) || many > 4 && (code != impl.PassLower || got != tight || len(places) > 0) {
			t.Errorf("%d numbers of 8 bytes into 32: %v, %d", many, places, code)
		}
	}
}

// Promise 17: a place that is none, as each one of the places, alone and beside others: PassBad, ahead of guards and of what
// any param tells; places at both ends of those that are some: what was told without them.
func TestPlacesThatAreNone(t *testing.T) {
	free, to := partOf(filledHeap(1, 0, 0), impl.CodeUtf8), partOf(filledHeap(1, 0xee, 3), impl.CodeLatin)
	bound, odd, inside, full := free, free, to, to
	bound.Leave, odd.Heap, inside.Inside, full.Heap.Next = false, filledHeap(1, 0xff, 0), true, 256
	closed := inside
	closed.Leave = false
	for _, c := range []struct {
		name     string
		from, to impl.Part
		params   string
		code     int
	}{
		{"may not leave", bound, to, "u8", impl.PassGuard}, {"is inside", free, inside, "u8", impl.PassGuard}, {"is inside, may not leave", free, closed, "u8", impl.PassGuard}, {"neither", bound, inside, "u8", impl.PassGuard},
		{"no char", odd, to, "char u8", impl.PassLift}, {"no text", odd, to, "string u8", impl.PassLift}, {"no list", odd, to, "list<u8> u8", impl.PassLift}, {"no case", odd, to, "option<u8> u8", impl.PassLift},
		{"no room", free, full, "u8 u8", impl.PassLower}, {"no room for a text", free, full, "string u8", impl.PassLower}, {"no char, neither", bound, inside, "char char", impl.PassGuard}, {"no room, may not leave", bound, full, "u8 u8", impl.PassGuard},
		{"nothing", free, to, "u8 string", impl.PassOk}, {"nothing of six", free, to, "u8 string u8 char u64 list<u8>", impl.PassOk}, {"no char behind", odd, to, "u8 u16 u64 flags<3> bool char", impl.PassLift},
	} {
		s := signatureOf(c.params, "u8")
		many := len(s.Params)
		if _, _, code := checkThrough(t, c.from, c.to, s, make([]int, many)); code != c.code {
			t.Errorf("%s: %d; want %d", c.name, code, c.code)
		}
		for _, at := range []int{-1, 1 << 32, math.MinInt, math.MaxInt, -2, -1 << 31, -1 << 32, 1<<32 + 8, 1 << 62} {
			// Each choice of places is none.
			for set := 1; set < 1<<many; set++ {
				args := make([]int, many)
				for i := range args {
					args[i] = at * (set >> i & 1)
				}
				if got, places, code := checkThrough(t, c.from, c.to, s, args); got != c.to || len(places) > 0 || code != impl.PassBad {
					t.Errorf("%s, places %v: %s, %v, %d; want PassBad", c.name, args, partText(got), places, code)
				}
			}
		}
		for i := range many {
			args := make([]int, many)
			args[i] = math.MaxUint32
			want := c.code
			// The last place is one, where nothing lies; it is met where its param is.
			if want == impl.PassOk || want == impl.PassLower && i == 0 {
				want = impl.PassLift
			}
			if got, places, code := checkThrough(t, c.from, c.to, s, args); got != c.to || len(places) > 0 || code != want {
				t.Errorf("%s, places %v: %s, %v, %d; want %d", c.name, args, partText(got), places, code, want)
			}
		}
	}
	// A part that is not good is the zero part, whatever the places.
	for _, at := range []int{-1, 0, 1 << 32} {
		if got, places, code := checkThrough(t, free, impl.Part{Name: "A"}, signatureOf("u8", ""), []int{at}); got != (impl.Part{}) || len(places) > 0 || code != impl.PassBad {
			t.Errorf("to no part, place %d: %s, %v, %d", at, partText(got), places, code)
		}
	}
}

// Promise 17: words that do not fit: too few, too many, of another type, with bits beyond it, of a type that has too many;
// and such as fit, but tell no value.
func TestWordsNotPassed(t *testing.T) {
	from, to := partOf(filledHeap(1, 0, 0), impl.CodeUtf8), partOf(heapOf(1, 5), impl.CodeLatin)
	refused := func(kind string, words []impl.Word, want int) {
		t.Helper()
		if got, row, code := checkWordsPassed(t, from, to, typeTold(kind).nodes(), words); got != to || len(row) > 0 || code != want {
			t.Errorf("%s of %s: %s, %s, %d; want %d", kind, wordsText(words), partText(got), wordsText(row), code, want)
		}
	}
	for _, kind := range []string{"u8", "u64", "f32", "string", "list<u8>", "record<u8,u64,f32>", "option<u64>", "variant<u8,record<f32,u64,string>>", "result<f32,u8>"} {
		row := wordsIn(typeTold(kind), make([]uint64, len(wantFlat(typeTold(kind)))))
		if _, _, code := checkWordsPassed(t, from, to, typeTold(kind).nodes(), row); code != impl.PassOk {
			t.Errorf("%s of words 0: %d", kind, code)
		}
		refused(kind, nil, impl.PassBad)
		for n := range row {
			refused(kind, row[:n], impl.PassBad)
		}
		for _, other := range []int{impl.TypeI32, impl.TypeI64, impl.TypeF32, impl.TypeNone, 0, -1, math.MaxInt} {
			refused(kind, append(slices.Clone(row), impl.Word{Type: other}), impl.PassBad)
			for i := range row {
				if l := slices.Clone(row); row[i].Type != other {
					l[i].Type = other
					refused(kind, l, impl.PassBad)
				}
			}
		}
		for i := range row {
			if l := slices.Clone(row); row[i].Type != impl.TypeI64 {
				l[i].Bits = 1 << 32
				refused(kind, l, impl.PassBad)
			}
		}
		refused(kind, make([]impl.Word, 100000), impl.PassBad)
	}
	for kind, words := range map[string]string{
		"char": "i:55296", "enum<3>": "i:3", "option<u8>": "i:2 i:0", "result<u8,u64>": "i:2 I:0", "variant<u8,f32>": "i:2 i:0", "string": "i:255 i:2", "list<u8>": "i:0 i:257", "list<u16>": "i:1 i:0", "list<string>": "i:0 i:100", "record<u8,list<u8>>": "i:1 i:0 i:98", "option<string>": "i:1 i:-1 i:1",
	} {
		refused(kind, wordsOf(words), impl.PassLift)
	}
	refused("string", wordsOf("i:0 i:201"), impl.PassLift)
	// A word that is none counts ahead of what the words ahead of it tell.
	for kind, words := range map[string]string{"record<char,u8>": "i:55296 I:0", "record<enum<3>,u64>": "i:3 i:0", "record<string,f32>": "i:255 i:2 i:0", "option<u8>": "i:2 f:0"} {
		refused(kind, wordsOf(words), impl.PassBad)
	}
	refused("record<char,u8>", []impl.Word{{Type: impl.TypeI32, Bits: 55296}, {Type: impl.TypeI32, Bits: 1 << 32}}, impl.PassBad)
	// Types of just as many words as there may be, and of one more: those do not go as words, but by a place.
	for many := 14; many <= 20; many++ {
		for _, x := range []typeTree{ofWords(many), ofWordsOver(many)} {
			row := wordsIn(x, make([]uint64, many))
			_, told, code := checkWordsPassed(t, from, to, x.nodes(), row)
			if few := many <= 16; few != (code == impl.PassOk) || !few && (code != impl.PassBad || len(told) > 0) {
				t.Errorf("%d words: %s, %d", many, wordsText(told), code)
			}
			if _, _, code := checkPassed(t, from, to, x.nodes(), 0); code != impl.PassOk {
				t.Errorf("a type of %d words by a place: %d", many, code)
			}
			if _, _, code := checkWordsPassed(t, from, to, x.nodes(), wordsOf("i:0")); code != impl.PassBad {
				t.Errorf("a place in the place of %d words: %d", many, code)
			}
		}
	}
}

// Promise 17: types that are none, and such as have handles, also where none is in the value.
func TestTypesNotPassed(t *testing.T) {
	types := noTypes()
	for _, kind := range []string{"own<0>", "borrow<9>", "list<own<1>>", "option<borrow<1>>", "record<u8,own<1>>", "variant<u8,borrow<1>>", "result<own<1>,u8>"} {
		types = append(types, typeTold(kind).nodes())
	}
	never := len(types)
	r := rand.New(rand.NewSource(212))
	for range 500 {
		types = append(types, spoiltNodes(r, anyTree(r, 10, 4).nodes()))
	}
	from, to := partOf(filledHeap(1, 0, 0), impl.CodeUtf8), partOf(heapOf(1, 5), impl.CodeLatin)
	for i, nodes := range types {
		for _, at := range []int{-1, 0, 256, 1 << 32} {
			if got, place, code := checkPassed(t, from, to, nodes, at); i < never && (got != to || place != 0 || code != impl.PassBad) {
				t.Errorf("%s at %d: %s, %d, %d", short(nodes), at, partText(got), place, code)
			}
		}
		for _, row := range [][]impl.Word{nil, wordsOf("i:0"), wordsOf("i:0 i:0")} {
			if got, told, code := checkWordsPassed(t, from, to, nodes, row); i < never && (got != to || len(told) > 0 || code != impl.PassBad) {
				t.Errorf("%s of %s: %s, %s, %d", short(nodes), wordsText(row), partText(got), wordsText(told), code)
			}
		}
	}
}

// Promise 17: parts that are not good, one at a time, as from and as to: ahead of all else, and the zero part where it is to.
func TestBadPartsPass(t *testing.T) {
	good := partOf(heapOf(1, 5), impl.CodeUtf8)
	closed := good
	closed.Inside, closed.Leave = true, false
	full := partOf(heapOf(1, 256), impl.CodeUtf8)
	for _, p := range badParts() {
		checkGuards(t, p)
		for _, beside := range []impl.Part{good, closed, full} {
			for _, pair := range [][2]impl.Part{{p, beside}, {beside, p}, {p, p}} {
				want := impl.Part{}
				if pair[1] != p {
					want = beside
				}
				for _, at := range []int{0, 300, -1} {
					if got, place, code := checkPassed(t, pair[0], pair[1], tree("u8").nodes(), at); got != want || place != 0 || code != impl.PassBad {
						t.Fatalf("PassValue from %s to %s: %s, %d, %d", partText(pair[0]), partText(pair[1]), partText(got), place, code)
					}
					if got, places, code := checkThrough(t, pair[0], pair[1], signatureOf("u8", ""), []int{at}); got != want || len(places) > 0 || code != impl.PassBad {
						t.Fatalf("CallThrough from %s to %s: %s, %v, %d", partText(pair[0]), partText(pair[1]), partText(got), places, code)
					}
				}
				for _, words := range []string{"i:7", "", "I:7"} {
					if got, row, code := checkWordsPassed(t, pair[0], pair[1], tree("u8").nodes(), wordsOf(words)); got != want || len(row) > 0 || code != impl.PassBad {
						t.Fatalf("PassWords from %s to %s: %s, %s, %d", partText(pair[0]), partText(pair[1]), partText(got), wordsText(row), code)
					}
				}
				// Also where nothing would be passed.
				if got, places, code := checkThrough(t, pair[0], pair[1], impl.Signature{}, nil); got != want || len(places) > 0 || code != impl.PassBad {
					t.Fatalf("CallThrough of no params from %s to %s: %s, %v, %d", partText(pair[0]), partText(pair[1]), partText(got), places, code)
				}
			}
		}
	}
}

// Promise 17: which code is first: a signature that is not good, or too few or too many places, ahead of guards; guards ahead
// of what is wrong with a param.
func TestOrderOfCalls(t *testing.T) {
	free := partOf(filledHeap(1, 0, 0), impl.CodeUtf8)
	bound, inside, full := free, free, free
	bound.Leave, inside.Inside, full.Heap.Next = false, true, 256
	both := bound
	both.Inside = true
	for _, from := range []impl.Part{free, bound, inside, both} {
		for _, to := range []impl.Part{free, bound, inside, both, full} {
			guarded := impl.PassOk
			if from == bound || from == both || to == inside || to == both {
				guarded = impl.PassGuard
			}
			for _, c := range []struct {
				params string
				args   []int
				code   int
			}{
				{"", []int{0}, impl.PassBad}, {"u8", nil, impl.PassBad}, {"u8", []int{0, 0}, impl.PassBad}, {"u8 u8", []int{0}, impl.PassBad}, {"u8", make([]int, 100000), impl.PassBad}, {"u8 u8 u8 u8 u8 u8 u8", make([]int, 7), impl.PassBad}, {"own<1>", []int{0}, impl.PassBad}, {"u8 u", []int{300, 0}, impl.PassBad}, {"u8 u", []int{0, 0}, impl.PassBad},
				{"", nil, guarded}, {"", []int{}, guarded},
			} {
				if got, places, code := checkThrough(t, from, to, signatureOf(c.params, ""), c.args); code != c.code || len(places) > 0 || code != impl.PassOk && got != to {
					t.Errorf("%s to %s, %.40s of %d: %s, %v, %d; want %d", partText(from), partText(to), c.params, len(c.args), partText(got), places, code, c.code)
				}
			}
			if _, _, code := checkThrough(t, from, to, signatureOf("", "own<1>"), nil); code != impl.PassBad {
				t.Errorf("a Result with handles: %d", code)
			}
			want := guarded
			if want == impl.PassOk && to == full {
				want = impl.PassLower
			}
			if _, _, code := checkThrough(t, from, to, signatureOf("u8 u8", "u8"), []int{0, 0}); code != want {
				t.Errorf("%s to %s: %d; want %d", partText(from), partText(to), code, want)
			}
			// What can not be taken up is met ahead of the room that lacks for it.
			if want != impl.PassGuard {
				want = impl.PassLift
			}
			if _, _, code := checkThrough(t, from, to, signatureOf("u8 u8", "u8"), []int{256, 0}); code != want {
				t.Errorf("%s to %s: %d; want %d", partText(from), partText(to), code, want)
			}
		}
	}
}
