package tests

import (
	"math"
	"math/rand"
	"slices"
	"strconv"
	"strings"
	"testing"

	"loop.example/g00209/impl"
)

// Promise 12: no nodes, one, as many as there may be, and one more; also as a text.
func TestValuesOfAllSizes(t *testing.T) {
	u8 := tree("u8")
	for _, x := range append(plainTypes(), tree("list", u8), tree("option", u8), tree("record", u8)) {
		if checkValues(t, x, nil) || checkValues(t, x, []impl.Value{}) {
			t.Errorf("%s: no nodes fit", x.text())
		}
	}
	for many := range 110 {
		for _, c := range []struct {
			x    typeTree
			v    valueTree
			text string
		}{
			{tree("list", u8), often(number(7), many), "[" + strings.TrimSuffix(strings.Repeat("7,", many), ",") + "]"},
			{tree("list", tree("string")), often(written("a"), many), "[" + strings.TrimSuffix(strings.Repeat(`"a",`, many), ",") + "]"},
			{tree("list", tree("option", u8)), often(number(1, number(7)), many), "[" + strings.TrimSuffix(strings.Repeat("some:7,", many), ",") + "]"},
			{tree("list", tree("list", u8)), often(gathered(), many), "[" + strings.TrimSuffix(strings.Repeat("[],", many), ",") + "]"},
			{tree("record", tree("list", u8), u8), gathered(often(number(7), many), number(8)), "([" + strings.TrimSuffix(strings.Repeat("7,", many), ",") + "],8)"},
			{tree("list", tree("record", u8, u8, u8)), often(often(number(7), 3), many), "[" + strings.TrimSuffix(strings.Repeat("(7,7,7),", many), ",") + "]"},
		} {
			within := c.v.count() <= impl.MaxValueNodes
			if got := checkValues(t, c.x, c.v.nodes()); got != within {
				t.Errorf("%s: %d nodes fit: %t", c.x.text(), c.v.count(), got)
			}
			if n, ok := impl.CountIn(c.x.nodes(), c.v.nodes()); ok != within || within && n != c.v.count() {
				t.Errorf("CountIn of %d nodes: %d, %t", c.v.count(), n, ok)
			}
			if l, ok := impl.ReadValue(c.x.nodes(), c.text); ok != within || within && !slices.Equal(l, c.v.nodes()) {
				t.Errorf("%s: %d nodes are read: %t", c.x.text(), c.v.count(), ok)
			}
			checkValueText(t, c.x, c.text)
		}
	}
}

// Promise 12: as deep as a type may be.
func TestValuesOfAllDepths(t *testing.T) {
	for deep := range 8 {
		for _, c := range []struct {
			name   string
			n      int
			ahead  string
			behind string
		}{{"list", 0, "[", "]"}, {"option", 1, "some:", ""}, {"record", 0, "(", ")"}, {"variant", 0, "0:", ""}} {
			x, v, s := within(c.name, deep, tree("s16")), number(-9), "-9"
			for range deep {
				v, s = number(c.n, v), c.ahead+s+c.behind
			}
			checkFits(t, x, v, true)
			if got, _ := impl.ValueText(x.nodes(), v.nodes()); got != s {
				t.Errorf("%s: %s, want %s", x.text(), got, s)
			}
			// One node deeper than the type.
			checkFits(t, x, number(c.n, v), false)
		}
	}
}

// Promise 12: what N may be of each kind, in nodes and as a text.
func TestValuesWithNumbers(t *testing.T) {
	for kind, c := range map[string]struct{ least, most int }{
		"bool": {0, 1}, "u8": {0, 255}, "s8": {-128, 127}, "u16": {0, 65535}, "s16": {-32768, 32767}, "u32": {0, 4294967295}, "s32": {-2147483648, 2147483647}, "u64": {math.MinInt, math.MaxInt}, "s64": {math.MinInt, math.MaxInt},
		"string": {0, 0}, "flags<1>": {0, 1}, "flags<2>": {0, 3}, "flags<8>": {0, 255}, "flags<9>": {0, 511}, "flags<31>": {0, 2147483647}, "flags<32>": {0, 4294967295},
		"enum<1>": {0, 0}, "enum<2>": {0, 1}, "enum<256>": {0, 255}, "enum<300>": {0, 299}, "own<0>": {0, 100000}, "own<9>": {0, 100000}, "borrow<0>": {0, 100000}, "borrow<9>": {0, 100000},
	} {
		x := typeTold(kind)
		for _, n := range slices.Concat(valueEdges, []int{c.least, c.most, c.least - 1, c.most + 1, c.least + 1, c.most - 1}) {
			good := n >= c.least && n <= c.most
			checkFits(t, x, number(n), good)
			if kind == "bool" || kind == "u64" || kind == "string" {
				continue
			}
			if l, ok := impl.ReadValue(x.nodes(), strconv.Itoa(n)); ok != good || good && (len(l) != 1 || l[0] != impl.Value{N: n, Up: -1}) {
				t.Errorf("ReadValue(%s, %d) = %v, %t", kind, n, l, ok)
			}
			checkValueText(t, x, strconv.Itoa(n))
		}
	}
	u64 := tree("u64").nodes()
	for n, s := range map[int]string{0: "0", 1: "1", math.MaxInt: "9223372036854775807", math.MinInt: "9223372036854775808", math.MinInt + 1: "9223372036854775809", -2: "18446744073709551614", -1: "18446744073709551615"} {
		if got, ok := impl.ValueText(u64, number(n).nodes()); !ok || got != s {
			t.Errorf("u64 of %d: %s, %t", n, got, ok)
		}
		if l, ok := impl.ReadValue(u64, s); !ok || !slices.Equal(l, number(n).nodes()) {
			t.Errorf("ReadValue(u64, %s) = %v, %t", s, l, ok)
		}
	}
	for _, s := range []string{"18446744073709551616", "18446744073709551617", "36893488147419103231", "-1", "-9223372036854775808", "-0"} {
		if l, ok := impl.ReadValue(u64, s); ok {
			t.Errorf("ReadValue(u64, %s) = %v, %t", s, l, ok)
		}
	}
	for _, s := range []string{"9223372036854775808", "-9223372036854775809", "18446744073709551615", "18446744073709551616"} {
		if l, ok := impl.ReadValue(tree("s64").nodes(), s); ok {
			t.Errorf("ReadValue(s64, %s) = %v, %t", s, l, ok)
		}
	}
}

// Promise 12: floats by their bits, of those that are no number the canonical one alone.
func TestValuesOfFloats(t *testing.T) {
	for n, good := range map[int]bool{
		-1: false, 0: true, 1: true, 0x007fffff: true, 0x00800000: true, 0x3f800000: true, 0x7f7fffff: true, 0x7f800000: true, 0x80000000: true, 0x80000001: true, 0xff7fffff: true, 0xff800000: true,
		0x7fc00000: true, 0x7f800001: false, 0x7fbfffff: false, 0x7fc00001: false, 0x7fffffff: false, 0x7fe00000: false, 0xffc00000: false, 0xff800001: false, 0xffffffff: false,
		1 << 32: false, 1<<32 + 1: false, 1<<32 + 0x7fc00000: false, -1 << 31: false, -0x400000: false, math.MinInt: false, math.MaxInt: false, math.MinInt + 1: false,
	} {
		checkFits(t, tree("f32"), number(n), good)
		if _, ok := impl.ReadValue(tree("f32").nodes(), strconv.Itoa(n)); ok != good {
			t.Errorf("ReadValue(f32, %d): %t", n, ok)
		}
	}
	for bits := range 1 << 16 {
		// Every sign and exponent with the ends of what lies behind the point.
		checkValues(t, tree("f32"), number(bits<<16).nodes())
		checkValues(t, tree("f32"), number(bits<<16+0xffff).nodes())
		checkValues(t, tree("f32"), number(0x7f800000^bits).nodes())
	}
}

// Promise 12: chars are points.
func TestValuesOfChars(t *testing.T) {
	for n, good := range map[int]bool{-1: false, 0: true, 127: true, 128: true, 255: true, 256: true, 55295: true, 55296: false, 56319: false, 56320: false, 57343: false, 57344: true, 65535: true, 65536: true, 1114111: true, 1114112: false, 1 << 31: false, 1 << 32: false, 1<<32 + 65: false, math.MinInt: false, math.MaxInt: false} {
		checkFits(t, tree("char"), number(n), good)
		if _, ok := impl.ReadValue(tree("char").nodes(), strconv.Itoa(n)); ok != good {
			t.Errorf("ReadValue(char, %d): %t", n, ok)
		}
	}
	for n := -2; n < 1114114; n++ {
		if n%7 == 0 || n > 55000 && n < 57700 {
			if impl.FitsType([]impl.TypeNode{{Kind: impl.KindChar, Up: -1}}, []impl.Value{{N: n, Up: -1}}) != wantNumber(tree("char"), n) {
				t.Fatal("char of", n)
			}
		}
	}
}

// Promise 12: Text of MaxValueText bytes and one more, and texts that are no CodeUtf8.
func TestValuesOfTexts(t *testing.T) {
	x := tree("string")
	for _, s := range []string{"a", "\x00", "\"", "\\", "\x7f", "\u00e4", "\u20ac", "\U0001f600"} {
		for many := 190 / len(s); many*len(s) < 210; many++ {
			whole := strings.Repeat(s, many)
			checkFits(t, x, written(whole), len(whole) <= impl.MaxValueText)
			if _, ok := impl.ReadValue(x.nodes(), `"`+wantQuoted(whole)+`"`); ok != (len(whole) <= impl.MaxValueText) {
				t.Errorf("a text of %d bytes: %t", len(whole), ok)
			}
		}
	}
	for _, s := range someStrings() {
		checkFits(t, x, written(s), true)
	}
	for _, s := range []string{
		"\x80", "\xbf", "\xc0\x80", "\xc1\xbf", "\xc2", "\xc2\x41", "\xc3\xa4\xa4", "\xe0\x80\x80", "\xe0\x9f\xbf", "\xe2\x82", "\xed\xa0\x80", "\xed\xbf\xbf", "\xf0\x80\x80\x80", "\xf0\x8f\xbf\xbf", "\xf0\x9f\x98", "\xf4\x90\x80\x80", "\xf5\x80\x80\x80", "\xf8\x88\x80\x80\x80", "\xfe", "\xff", "a\xff", "\xffa", "a\xe2\x82b",
		strings.Repeat("a", 199) + "\xc3", strings.Repeat("a", 200) + "\xff", strings.Repeat("\xff", 200), text(100000), strings.Repeat("\u00e4", 100000), strings.Repeat("\xff", 100000),
	} {
		checkFits(t, x, written(s), false)
		checkValueText(t, x, `"`+wantQuoted(s)+`"`)
		checkValueText(t, x, `"`+s+`"`)
	}
	for b := range 256 {
		s := string([]byte{byte(b)})
		checkFits(t, x, written(s), b < 128)
		checkFits(t, x, written("a"+s+"b"), b < 128)
		checkFits(t, x, written("\xc3"+s), b >= 128 && b < 192)
	}
}

// Promise 12: N and the parts beside it.
func TestValuesWithParts(t *testing.T) {
	u8, v := tree("u8"), number(5)
	three := tree("variant", u8, tree("string"), u8)
	for _, c := range []struct {
		x    typeTree
		v    valueTree
		fits bool
	}{
		{three, number(0, v), true}, {three, number(1, written("a")), true}, {three, number(2, v), true}, {three, number(3, v), false}, {three, number(-1, v), false}, {three, number(math.MinInt, v), false}, {three, number(math.MaxInt, v), false}, {three, number(1<<32, v), false},
		{three, number(0), false}, {three, number(1), false}, {three, number(2), false}, {three, number(0, v, v), false}, {three, number(1, written("a"), written("a")), false}, {three, number(2, v, v), false}, {three, number(1, v), false}, {three, number(0, written("a")), false},
		{tree("variant", u8), number(0, v), true}, {tree("variant", u8), number(1, v), false}, {tree("variant", alike(u8, 8)...), number(7, v), true}, {tree("variant", alike(u8, 8)...), number(8, v), false},
		{tree("option", u8), number(0), true}, {tree("option", u8), number(0, v), false}, {tree("option", u8), number(1, v), true}, {tree("option", u8), number(1), false}, {tree("option", u8), number(1, v, v), false}, {tree("option", u8), number(2, v), false}, {tree("option", u8), number(2, v, v), false}, {tree("option", u8), number(2), false}, {tree("option", u8), number(-1), false}, {tree("option", u8), number(-1, v), false},
		{tree("option", u8), number(1, written("a")), false}, {tree("option", u8), number(1, number(256)), false},
		{tree("result", u8, tree("string")), number(0, v), true}, {tree("result", u8, tree("string")), number(1, written("a")), true}, {tree("result", u8, tree("string")), number(0, written("a")), false}, {tree("result", u8, tree("string")), number(1, v), false}, {tree("result", u8, u8), number(-1, v), false}, {tree("result", u8, u8), number(2, v), false}, {tree("result", u8, u8), number(0), false}, {tree("result", u8, u8), number(1), false}, {tree("result", u8, u8), number(0, v, v), false}, {tree("result", u8, u8), number(1, v, v), false},
		{tree("record", u8), gathered(v), true}, {tree("record", u8), gathered(), false}, {tree("record", u8), gathered(v, v), false}, {tree("record", u8, u8), gathered(v), false}, {tree("record", u8, u8), gathered(v, v), true}, {tree("record", u8, u8), gathered(v, v, v), false}, {tree("record", alike(u8, 8)...), often(v, 8), true}, {tree("record", alike(u8, 8)...), often(v, 7), false}, {tree("record", alike(u8, 8)...), often(v, 9), false},
		{tree("record", u8, tree("string")), gathered(v, written("a")), true}, {tree("record", u8, tree("string")), gathered(written("a"), v), false}, {tree("record", u8), number(1, v), false}, {tree("record", u8), number(-1, v), false},
		{tree("list", u8), gathered(), true}, {tree("list", u8), gathered(v), true}, {tree("list", u8), gathered(v, v, v), true}, {tree("list", u8), number(1), false}, {tree("list", u8), number(1, v), false}, {tree("list", u8), number(-1), false}, {tree("list", u8), gathered(v, number(256)), false}, {tree("list", u8), gathered(number(-1), v), false}, {tree("list", u8), gathered(gathered(v)), false},
		{tree("list", tree("list", u8)), gathered(v), false}, {tree("list", tree("list", u8)), gathered(gathered(v)), true}, {tree("list", tree("list", u8)), gathered(gathered(v), v), false},
	} {
		checkFits(t, c.x, c.v, c.fits)
	}
	for _, x := range plainTypes() {
		checkFits(t, x, number(0), true)
		checkFits(t, x, number(0, number(0)), false)
		checkFits(t, x, number(0, number(0), number(0)), false)
		if x.kind != impl.KindString {
			checkFits(t, x, written("a"), false)
			checkFits(t, x, written("\x00"), false)
			checkFits(t, x, written("\xff"), false)
			checkFits(t, x, written("0"), false)
			checkFits(t, x, written(text(1000)), false)
		}
	}
	for _, c := range []struct {
		x typeTree
		v valueTree
	}{{tree("list", u8), gathered()}, {tree("list", u8), gathered(v)}, {tree("record", u8), gathered(v)}, {three, number(0, v)}, {tree("option", u8), number(0)}, {tree("option", u8), number(1, v)}, {tree("result", u8, u8), number(1, v)}} {
		c.v.text = "a"
		checkFits(t, c.x, c.v, false)
	}
	checkFits(t, tree("string"), valueTree{n: 1, text: "a"}, false)
	checkFits(t, tree("string"), valueTree{n: -1}, false)
}

// Promise 12: what each node is a part of: the node ahead, or one around that one.
func TestValuesUpwards(t *testing.T) {
	row := typeTold("list<list<list<u8>>>")
	for _, c := range []struct {
		x    typeTree
		ups  []int
		fits bool
	}{
		{tree("u8"), []int{-1}, true}, {tree("u8"), []int{0}, false}, {tree("u8"), []int{1}, false}, {tree("u8"), []int{-2}, false}, {tree("u8"), []int{math.MinInt}, false}, {tree("u8"), []int{math.MaxInt}, false},
		{row, []int{-1}, true}, {row, []int{0}, false}, {row, []int{-2}, false},
		{row, []int{-1, 0}, true}, {row, []int{-1, -1}, false}, {row, []int{-1, 1}, false}, {row, []int{-1, 2}, false}, {row, []int{-1, -2}, false}, {row, []int{-1, math.MaxInt}, false}, {row, []int{-1, math.MinInt}, false}, {row, []int{0, 0}, false}, {row, []int{1, 0}, false},
		{row, []int{-1, 0, 0}, true}, {row, []int{-1, 0, 1}, true}, {row, []int{-1, 0, 2}, false}, {row, []int{-1, 0, 3}, false}, {row, []int{-1, 0, -1}, false}, {row, []int{-1, 2, 1}, false}, {row, []int{-1, 2, 0}, false},
		{row, []int{-1, 0, 1, 2}, true}, {row, []int{-1, 0, 1, 2, 2}, true}, {row, []int{-1, 0, 1, 2, 3}, false}, {row, []int{-1, 0, 1, 2, 1}, true}, {row, []int{-1, 0, 1, 2, 0}, true}, {row, []int{-1, 0, 1, 2, -1}, false}, {row, []int{-1, 0, 1, 2, 4}, false},
		{row, []int{-1, 0, 1, 0, 3}, true}, {row, []int{-1, 0, 1, 0, 1}, false}, {row, []int{-1, 0, 1, 0, 2}, false}, {row, []int{-1, 0, 1, 0, 3, 1}, false}, {row, []int{-1, 0, 1, 0, 3, 0}, true}, {row, []int{-1, 0, 0, 0, 1}, false}, {row, []int{-1, 0, 0, 0, 2}, false}, {row, []int{-1, 0, 0, 0, 3}, true},
	} {
		var l []impl.Value
		for _, up := range c.ups {
			l = append(l, impl.Value{Up: up})
		}
		if got := checkValues(t, c.x, l); got != c.fits {
			t.Errorf("FitsType(%s, %v) = %t", c.x.text(), l, got)
		}
	}
	// The same with a record, whose parts may lie elsewhere, but not so.
	two := typeTold("record<record<u8,u8>,record<u8,u8>>")
	good := often(often(number(0), 2), 2).nodes()
	for at := range good {
		for up := -3; up < 10; up++ {
			l := slices.Clone(good)
			l[at].Up = up
			if got := checkValues(t, two, l); got != slices.Equal(l, good) {
				t.Errorf("FitsType(%s, %v) = %t", two.text(), l, got)
			}
		}
	}
}

// Promise 12: nothing is a value of a type that is not good.
func TestValuesOfNoType(t *testing.T) {
	for _, x := range []typeTree{{}, {kind: 22}, {kind: -1}, tree("list"), tree("record"), tree("variant"), tree("option"), tree("result", tree("u8")), tree("list", tree("u8"), tree("u8")), tree("u8", tree("u8")), counted("flags", 0), counted("flags", 33), counted("enum", 0), counted("enum", 301), counted("own", 10), counted("borrow", -1), counted("u8", 1), within("list", 8, tree("u8")), tree("record", alike(tree("u8"), 9)...), tree("record", alike(tree("record", alike(tree("u8"), 4)...), 8)...), tree("option", counted("flags", 64)), tree("result", tree("u8"), counted("enum", -1))} {
		for _, v := range []valueTree{number(0), number(1), number(1, number(0)), gathered(number(0)), gathered(number(0), number(0)), written("a"), often(number(0), 9), often(often(number(0), 4), 8)} {
			if _, fits := tellValue(t, x.nodes(), v.nodes()); fits {
				t.Errorf("%v fits %v", v.nodes(), x.nodes())
			}
		}
		for _, s := range []string{"", "0", "1", "[]", "()", "[0]", "(0)", "none", "some:0", "ok:0", "0:0", `""`, "[[[[[[[[]]]]]]]]", "(0,0,0,0,0,0,0,0,0)"} {
			if l, ok := impl.ReadValue(x.nodes(), s); ok || len(l) > 0 {
				t.Errorf("ReadValue(%v, %s) = %v, %t", x.nodes(), s, l, ok)
			}
		}
		checkZero(t, x)
	}
	for _, types := range [][]impl.TypeNode{nil, {{Kind: impl.KindU8}}, {{Kind: impl.KindU8, Up: 1}}, {{Kind: impl.KindU8, Up: -1}, {Kind: impl.KindU8, Up: -1}}, {{Kind: impl.KindRecord, Up: -1}, {Kind: impl.KindU8, Up: 1}}} {
		if _, fits := tellValue(t, types, number(0).nodes()); fits {
			t.Errorf("0 fits %v", types)
		}
		if l, ok := impl.ReadValue(types, "0"); ok || len(l) > 0 {
			t.Errorf("ReadValue(%v, 0) = %v, %t", types, l, ok)
		}
		if l, ok := impl.ZeroOf(types); ok || len(l) > 0 {
			t.Errorf("ZeroOf(%v) = %v, %t", types, l, ok)
		}
	}
}

// eachValues: all lists of at most so many nodes with these N, these Texts, and Up from -2 on.
func eachValues(most int, numbers []int, texts []string, do func([]impl.Value)) {
	var next func(l []impl.Value)
	next = func(l []impl.Value) {
		do(l)
		if len(l) == most {
			return
		}
		for _, n := range numbers {
			for _, s := range texts {
				for up := -2; up <= len(l); up++ {
					next(append(slices.Clip(l), impl.Value{N: n, Text: s, Up: up}))
				}
			}
		}
	}
	next(nil)
}

// Promise 12: of all short lists of nodes just those fit that are values.
func TestAllShortValues(t *testing.T) {
	for kind, want := range map[string]int{
		"bool": 2, "string": 2, "enum<2>": 2, "list<bool>": 7, "list<string>": 7, "record<bool,string>": 4, "variant<bool,string>": 4, "option<bool>": 3, "option<option<bool>>": 4, "result<bool,list<bool>>": 5, "list<list<u8>>": 6, "list<option<bool>>": 5, "record<list<bool>>": 3,
	} {
		x, fit := typeTold(kind), 0
		eachValues(3, []int{-1, 0, 1, 2}, []string{"", "a"}, func(l []impl.Value) {
			if checkValues(t, x, l) {
				fit++
			}
		})
		if fit != want {
			t.Errorf("%s: %d fit, want %d", kind, fit, want)
		}
	}
	for _, kind := range []string{"list<list<u8>>", "record<list<u8>,u8>", "option<list<u8>>", "variant<record<u8,u8>,option<u8>>", "record<option<u8>,u8>", "result<list<list<u8>>,u8>"} {
		x := typeTold(kind)
		eachValues(5, []int{0, 1}, []string{""}, func(l []impl.Value) { checkValues(t, x, l) })
	}
}

// Promise 12: values in which one thing was changed into anything.
func TestValuesSpoilt(t *testing.T) {
	r := rand.New(rand.NewSource(125))
	fit, other := 0, 0
	for range 30000 {
		x := anyTree(r, 1+r.Intn(40), 1+r.Intn(8))
		l := spoiltValues(r, anyValue(r, x, 1+r.Intn(101)).nodes())
		if checkValues(t, x, l) {
			fit++
		} else {
			other++
		}
		// A value of another type.
		checkValues(t, anyTree(r, 1+r.Intn(4), 3), l)
	}
	if fit < 1000 || other < 1000 {
		t.Error("too few of one kind:", fit, other)
	}
}
