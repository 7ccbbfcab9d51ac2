package tests

import (
	"fmt"
	"math/rand"
	"slices"
	"strings"
	"testing"

	"loop.example/g00209/impl"
)

// wrongTexts: by type, texts that are no value's.
func wrongTexts() map[string][]string {
	return map[string][]string{
		"bool":   {"", "t", "tru", "True", "TRUE", "true ", " true", "truefalse", "true,", "trues", "fals", "falsee", "1", "0", "yes", "\"true\"", "true\x00"},
		"u8":     {"", " ", " 1", "1 ", "1\n", "\t1", "+1", "-1", "-0", "-", "--1", "00", "01", "007", "0x1", "1_0", "1e1", "1.0", "1,", ",1", "1,1", "[1]", "(1)", "1]", "1)", "256", "1000", "a", "1a", "0b1", "0-", "1-", "1-1", "\xd9\xa1", "\xef\xbc\x91", "1\x00", "some:1", "ok:1", "0:1", "\"1\""},
		"s8":     {"+1", "-0", "-00", "-01", "--1", "- 1", "-", "-129", "128", "1-", "-1-", "\xe2\x88\x921"},
		"u16":    {"65536", "-1", "-0", "0000", "065535"},
		"s16":    {"32768", "-32769", "-032768", "+32767"},
		"u32":    {"4294967296", "-1", "04294967295"},
		"s32":    {"2147483648", "-2147483649", "4294967295"},
		"u64":    {"18446744073709551616", "-1", "-0", "+1", "00", "018446744073709551615", "99999999999999999999", "184467440737095516150", strings.Repeat("9", 100000), strings.Repeat("0", 100000), "-9223372036854775808"},
		"s64":    {"9223372036854775808", "-9223372036854775809", "18446744073709551615", "-0", "--9223372036854775808", strings.Repeat("9", 100000), "-" + strings.Repeat("9", 100000), "-" + strings.Repeat("0", 100000), strings.Repeat("-", 100000)},
		"f32":    {"1.5", "-1", "nan", "inf", "0x7f800000", "2143289345", "4290772992", "4294967296", "1e3", "+0", "-0"},
		"char":   {"a", "'a'", "\"a\"", "U+0041", "0x41", "55296", "57343", "1114112", "-1", "A65"},
		"string": {"", "a", "\"", "\"a", "a\"", "\"\"\"", "\"a\"\"", "\"a\"b", "\"a\" ", " \"a\"", "'a'", "`a`", "\"\\\"", "\"\\\"\"", "\"\\2\"", "\"\\\\\"", "\"\\n\"", "\"\\x22\"", "\"\\u0022\"", "\"\\2 \"", "\"\\ 2\"", "\"\\+2\"", "\"\\-2\"", "\"\\0x\"", "\"\\g0\"", "\"\\0g\"", "\"\\_1\"", "\"\\1_\"", "\"\\22", "\"\\5C\"", "\"\\7F\"", "\"\\0A\"", "\"\\C3\\A4\"", "\"\\c3\\A4\"", "\"\\c3\"", "\"\\ff\"", "\"\\80\"", "\"\\ed\\a0\\80\"", "\"\\c0\\80\"", "\"\\f4\\90\\80\\80\"", "\"\u00e4\"", "\"\xff\"", "\"a\nb\"", "\"\x00\"", "\"\x7f\"", "\"\\20\"", "\"\\61\"", "\"\\7e\"", "\"\\21\"", "\"\\23\"", "\"\\5b\"", "\"\\5d\"", "\"a\\\"", "none", "\"" + text(201) + "\"", "\"" + strings.Repeat("\\00", 201) + "\"", "\"" + text(1000000), "\"" + text(1000000) + "\"", strings.Repeat("\"", 100000), "\"" + strings.Repeat("\\", 100000) + "\"", "\"" + strings.Repeat("\\00", 100000) + "\""},
		"list<u8>": {"", "[", "]", "[[", "]]", "[1", "1]", "1", "1,2", "[1,", "[1,]", "[,1]", "[,]", "[1,,2]", "[1 2]", "[1, 2]", "[ 1]", "[1 ]", "[ ]", "[] ", " []", "[]]", "[[]", "[[]]", "[[1]]", "[]1", "[1]2", "[1][2]", "[1],", "(1)", "[1)", "(1]", "{1}", "<1>", "[01]", "[-0]", "[256]", "[1,256]", "[256,1]", "[1;2]", "[1:2]", "[12", "[none]", "[some:1]", "[\"1\"]", "[]\n", "[\x00]", strings.Repeat("[", 100000), strings.Repeat("]", 100000), "[" + strings.Repeat("1,", 100000) + "1]", "[" + strings.Repeat(",", 100000) + "]", strings.Repeat("[]", 100000), "[" + strings.Repeat("1", 100000) + "]",
			"[" + strings.Repeat("7,", 99) + "7]"},
		"list<list<u8>>":             {"[[]", "[]]", "[[],]", "[,[]]", "[[][]]", "[[1,[]]", "[[1],2]", "[1]", "[[[]]]", "[[1]],[2]", "[[1,]]", strings.Repeat("[", 8) + strings.Repeat("]", 8)},
		"list<string>":               {"[\"a]", "[\"a\",]", "[a]", "[\"a\"\"b\"]", "[\"a\" ,\"b\"]", "[\"a\",\"b]", "[\"\"\"]"},
		"record<u8>":                 {"", "1", "()", "(1", "1)", "(1,)", "(,1)", "(1,2)", "(1 )", "( 1)", "((1))", "[1]", "(1]", "[1)", "(1))", "(1)1", "(1),", "(256)", "(01)", "(-0)"},
		"record<u8,string,list<u8>>": {"(1,\"a\")", "(1,\"a\",[],)", "(1,\"a\",[],[])", "(1,[],\"a\")", "(\"a\",1,[])", "(1,\"a\",[]", "1,\"a\",[]", "(1,,[])", "(1\"a\"[])", "(1,\"a\"[])", "(1\"a\",[])", "(1, \"a\",[])", "(1,\"a\",[)", "(1,\"a\",])", "(1,\"a\",[)]", "(1,a,[])", "(,,)", "(1,\"a,[])", "(1;\"a\";[])", "(1:\"a\":[])"},
		"variant<u8,string>":         {"", "0", "1", "0:", "1:", ":", ":1", "0:\"a\"", "1:1", "2:1", "2:\"a\"", "-1:1", "-0:1", "00:1", "01:\"a\"", "+0:1", "0: 1", "0 :1", " 0:1", "0:1 ", "0::1", "0:1:", "0:1,", "0:1,2", "0;1", "0=1", "0(1)", "0:(1)", "01", "0.1", "0:256", "0:01", "1\"a\"", "18446744073709551616:1", "4294967296:1", strings.Repeat("0", 100000) + ":1", strings.Repeat("0:", 100000) + "1"},
		"option<u8>":                 {"", "n", "non", "none ", " none", "none:", "none:1", "none1", "nones", "None", "NONE", "null", "some", "some:", "some: 1", "some :1", "some1", "some(1)", "some::1", "some:none", "some:some:1", "some:256", "some:01", "some:-0", "Some:1", "som:1", "somee:1", "1", "0", "some:1,", "some:1none", "nonesome:1", "0:", "1:1"},
		"option<option<u8>>":         {"some", "some:some", "some:some:", "none:none", "some:1", "some:none:none", "some:some:none", "some:some:some:1", "somesome:1", "some,none", strings.Repeat("some:", 100000) + "none"},
		"result<u8,string>":          {"", "ok", "err", "ok:", "err:", "ok:\"a\"", "err:1", "ok1", "ok :1", "ok: 1", " ok:1", "ok:1 ", "Ok:1", "OK:1", "oks:1", "o:1", "error:\"a\"", "er:\"a\"", "0:1", "1:\"a\"", "ok::1", "ok:1,err:\"a\"", "ok:ok:1", "ok:256", "ok:1err", "ok(1)", "err\"a\""},
		"flags<3>":                   {"8", "-1", "-0", "07", "0b111", "111", "+1", "[1,2]", "7 ", "7,"},
		"flags<1>":                   {"2", "3", "true", "01"},
		"flags<32>":                  {"4294967296", "-1", "4294967295 "},
		"enum<3>":                    {"3", "-1", "00", "01", "-0", "a", "0:", "0:0", "18446744073709551616", "4294967296"},
		"own<3>":                     {"100001", "-1", "-0", "00", "own<3>", "3:1", "0100000", "100000 "},
		"borrow<3>":                  {"100001", "-1", "00", "borrow:1"},
		"record<option<u8>,u8>":      {"(some:1)", "(some:1,2,3)", "(none)", "(none,some:2)", "(some:(1,2))", "(some:1,)", "(some:,1)", "(some1,2)", "some:1,2", "(none:1,2)", "(none2)", "(some:12)"},
		"record<result<u8,u8>,u8>":   {"(ok:1)", "(ok:1,err:2)", "(ok,1)", "(1,1)", "(ok:1 ,1)", "(ok:1:1)"},
		"list<variant<u8,list<u8>>>": {"[0:1,1:1]", "[0:1,1:[1]", "[0:1,1:[1]]]", "[0:1 1:[1]]", "[0,1]", "[0:1,,1:[]]", "[0:1,]", "[2:1]"},
		"option<record<u8,u8>>":      {"some:1,2", "some:(1,2", "some:(1)", "some:(1,2,3)", "some:((1,2))", "none()", "(1,2)"},
		"variant<variant<u8>,record<option<u8>>>": {"0:0", "0:0:", "0:1:1", "1:some:1", "1:(some:1", "1:(1)", "1:()", "0:0:0:1", "1:(none,none)"},
	}
}

// Promise 12: texts that are no value's.
func TestValuesWronglyTold(t *testing.T) {
	for kind, texts := range wrongTexts() {
		x := typeTold(kind)
		for _, s := range texts {
			if l, ok := impl.ReadValue(x.nodes(), s); ok || len(l) > 0 {
				t.Errorf("ReadValue(%s, %.100q) = %.300v, %t", kind, s, l, ok)
			}
			checkValueText(t, x, s)
			// The same within others: what is wrong there is wrong here too, or belongs to what is around.
			if len(s) < 1000 {
				checkValueText(t, tree("list", x), "["+s+"]")
				checkValueText(t, tree("record", x, tree("u8")), "("+s+",0)")
				checkValueText(t, tree("record", tree("u8"), x), "(0,"+s+")")
				checkValueText(t, tree("option", x), "some:"+s)
				checkValueText(t, tree("result", x, x), "err:"+s)
				checkValueText(t, tree("variant", x), "0:"+s)
			}
		}
	}
}

// Promise 12: texts of all kinds read as a value of each type.
func TestValuesOfAnotherType(t *testing.T) {
	r := rand.New(rand.NewSource(126))
	types := append(plainTypes(), typeTold("list<u8>"), typeTold("list<string>"), typeTold("record<u8>"), typeTold("record<u8,string>"), typeTold("variant<u8,string>"), typeTold("option<u8>"), typeTold("option<option<u8>>"), typeTold("result<u8,string>"), typeTold("variant<list<u8>>"))
	for _, x := range types {
		for range 20 {
			v := anyValue(r, x, 10)
			for _, y := range types {
				checkValueText(t, y, wantText(x, v))
				checkValues(t, y, v.nodes())
			}
		}
	}
}

// Promise 12: each byte in a string, as it is and by digits.
func TestValuesOfEachByte(t *testing.T) {
	x := tree("string")
	for b := range 256 {
		plain := b >= 32 && b <= 126 && b != '"' && b != '\\'
		is, small, great := string([]byte{byte(b)}), fmt.Sprintf("\\%02x", b), fmt.Sprintf("\\%02X", b)
		for s, good := range map[string]bool{is: plain, small: !plain && b < 128, great: !plain && b < 128 && great == small} {
			l, ok := impl.ReadValue(x.nodes(), "\"a"+s+"b\"")
			if ok != good || ok && (len(l) != 1 || l[0].Text != "a"+is+"b") {
				t.Errorf("%q: %v, %t", s, l, ok)
			}
			checkValueText(t, x, "\""+s+"\"")
			// Behind the front of a point of two bytes.
			checkValueText(t, x, "\"\\c3"+s+"\"")
			checkValueText(t, x, "\"\xc3"+s+"\"")
			checkValueText(t, tree("list", x), "[\""+s+"\",\""+s+"\"]")
		}
		for other := range 256 {
			checkValueText(t, x, "\"\\"+string([]byte{byte(b), byte(other)})+"\"")
		}
	}
}

// Promise 12: of all short rows of words just the texts of values are read.
func TestAllShortValueTexts(t *testing.T) {
	for _, c := range []struct {
		kind  string
		words []string
		most  int
		read  int
	}{
		{"list<u8>", []string{"[", "]", ",", "1", "-", "0"}, 6, 21},
		{"record<u8,u8>", []string{"(", ")", ",", "1", "0", "["}, 6, 12},
		{"list<list<u8>>", []string{"[", "]", ",", "1"}, 8, 11},
		{"record<option<u8>,bool>", []string{"(", ")", ",", "some:", "none", "true", "1"}, 6, 2},
		{"list<result<u8,bool>>", []string{"[", "]", ",", "ok:", "err:", "true", "1"}, 6, 5},
		{"variant<u8,variant<u8>>", []string{"0", "1", ":", "-", ","}, 6, 12},
		// Three texts, two of them by several rows of words.
		{"option<option<bool>>", []string{"some:", "none", "true", "some", ":", ","}, 5, 7},
		{"string", []string{"\"", "\\", "2", "0", "a", "\\00", "\x00"}, 6, 377},
	} {
		x, read := typeTold(c.kind), 0
		var next func(s string, left int)
		next = func(s string, left int) {
			if checkValueText(t, x, s) {
				read++
			}
			for _, word := range c.words {
				if left > 0 {
					next(s+word, left-1)
				}
			}
		}
		next("", c.most)
		if read != c.read {
			t.Errorf("%s: %d were values, want %d", c.kind, read, c.read)
		}
	}
}

// Promise 12: each text with one byte lacking, doubled, another one, or one more.
func TestValueTextsOfOneOtherByte(t *testing.T) {
	other := "[](),:\"\\0123456789 -+abcdefAFksomenrtul\x00\n\x7f\xff"
	for kind, s := range map[string]string{
		"bool": "true", "u8": "255", "s8": "-128", "u64": "18446744073709551615", "s64": "-9223372036854775808", "f32": "2143289344", "char": "55295", "string": `"a\22\c3\a4~"`, "list<u8>": "[1,20,0]", "record<u8,s8>": "(1,-1)", "variant<u8,bool>": "1:false", "flags<8>": "128", "enum<300>": "299", "own<1>": "100000",
		"option<u8>": "some:10", "option<bool>": "none", "result<u8,string>": `err:"]"`, "record<list<option<u8>>,result<own<1>,flags<32>>,string,variant<list<bool>>>": `([none,some:1],ok:7,"\00,",0:[true])`,
	} {
		x := typeTold(kind)
		if !checkValueText(t, x, s) {
			t.Fatal("meant to be read:", kind, s)
		}
		for at := range len(s) + 1 {
			for _, b := range []byte(other) {
				checkValueText(t, x, s[:at]+string([]byte{b})+s[at:])
				if at < len(s) {
					checkValueText(t, x, s[:at]+string([]byte{b})+s[at+1:])
				}
			}
			checkValueText(t, x, s[:at])
			checkValueText(t, x, s[at:])
			if at < len(s) {
				checkValueText(t, x, s[:at]+s[at+1:])
				checkValueText(t, x, s[:at]+s[at:at+1]+s[at:])
			}
			if at+1 < len(s) {
				checkValueText(t, x, s[:at]+s[at+1:at+2]+s[at:at+1]+s[at+2:])
			}
		}
	}
}

// Promise 12: any texts that are nearly those of values.
func TestValueTextsSpoilt(t *testing.T) {
	r := rand.New(rand.NewSource(127))
	read, other := 0, 0
	for range 40000 {
		x := anyTree(r, 1+r.Intn(12), 1+r.Intn(6))
		s := wantText(x, anyValue(r, x, 1+r.Intn(20)))
		for range 1 + r.Intn(2) {
			s = spoiltTold(r, s)
		}
		if checkValueText(t, x, s) {
			read++
		} else {
			other++
		}
	}
	if read < 500 || other < 500 {
		t.Error("too few of one kind:", read, other)
	}
}

// Promise 12: no two values have one text.
func TestValuesHaveTheirTexts(t *testing.T) {
	for _, kind := range []string{"list<list<bool>>", "record<option<bool>,list<bool>>", "variant<bool,option<bool>,list<bool>>", "result<option<bool>,string>", "list<string>"} {
		x, seen := typeTold(kind), map[string][]impl.Value{}
		eachValues(4, []int{0, 1}, []string{"", ","}, func(l []impl.Value) {
			if s, ok := impl.ValueText(x.nodes(), l); ok {
				if was, ok := seen[s]; ok {
					t.Fatalf("%s: %s is told of %v and of %v", kind, s, was, l)
				}
				seen[s] = slices.Clone(l)
			}
		})
		for s, l := range seen {
			if back, ok := impl.ReadValue(x.nodes(), s); !ok || !slices.Equal(back, l) {
				t.Fatalf("%s: %s comes back as %v, %t; was %v", kind, s, back, ok, l)
			}
		}
	}
}
