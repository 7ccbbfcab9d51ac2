package tests

import (
	"math/rand"
	"slices"
	"strings"
	"testing"

	"loop.example/g00209/impl"
)

// Promise 11: texts that are no type's.
func TestTypesWronglyTold(t *testing.T) {
	for _, s := range []string{
		// blanks
		" ", " u8", "u8 ", "u 8", "list< u8>", "list<u8 >", "list <u8>", "record<u8, u8>", "record<u8 ,u8>", "flags< 8>", "flags<8 >", "u8\n", "\tu8", "list<u8>\n", "u8\x00", "\x00",
		// numbers
		"flags<01>", "flags<00>", "flags<008>", "own<00>", "own<01>", "enum<0256>", "flags<+8>", "flags<-8>", "own<-0>", "own<+0>", "own<-1>", "enum<-1>", "flags<1_0>", "flags<0x8>", "flags<8.0>", "flags<1e1>",
		"flags<>", "own<>", "flags", "enum", "own", "borrow", "flags<8", "flags8", "flags 8", "flags<8>>", "flags<<8>>", "flags<8,8>", "flags<8,>", "flags<,8>", "own<1,1>", "flags<a>", "flags<8a>", "flags<u8>", "own<own<1>>",
		"flags<18446744073709551617>", "flags<9223372036854775808>", "flags<4294967297>", "own<18446744073709551616>", "own<4294967296>", "own<" + strings.Repeat("0", 100) + ">", "own<" + strings.Repeat("9", 350) + ">", "flags<" + strings.Repeat("1", 100000) + ">",
		"flags<\xd9\xa1>", "own<\xef\xbc\x91>", "8", "<8>", "list<8>", "record<8>", "option<8>", "u<8>", "u8<8>", "record<u8,8>", "record<8,u8>", "8,u8", "u8,8",
		// names
		"u", "u7", "u88", "u80", "8u", "U8", "Bool", "BOOL", "boo", "booll", "bool8", "s", "s128", "s1", "f", "f16", "f64", "f3", "f322", "cha", "chars", "str", "strin", "strings", "text", "int", "i32", "any", "?", "void", "unit", "tuple<u8>",
		"lis<u8>", "listt<u8>", "List<u8>", "recor<u8>", "records<u8>", "varian<u8>", "variants<u8>", "flag<8>", "flagss<8>", "optio<u8>", "options<u8>", "resul<u8,u8>", "results<u8,u8>", "enu<8>", "enums<8>", "ow<1>", "owns<1>", "borro<1>", "borrows<1>", "u\xc2\xb8",
		// brackets
		"<", ">", "<>", "<u8>", "<u8", "u8<", "u8>", "u8<>", "u8<u8>", "bool<>", "string<u8>", "string<>", "char<char>", "list", "list<", "list>", "list<>", "list<u8", "listu8>", "list u8", "list(u8)", "list[u8]", "list<<u8>>", "list<u8>>", "list<<u8>", "list<u8><", "list><u8>", ">list<u8>", "list<list<u8>", "list<list>u8>>", "list<>u8", "list<u8><u8>", "list<>list<u8>", "(u8)",
		// something behind, or ahead
		"u8u8", "u8 u8", "u8;", "u8.", "u8=", "list<u8>u8", "list<u8>list<u8>", "list<u8>>u8", "own<1>1", "own<1><1>", "u8/", "1u8", "=u8", "list<u8u8>",
		// commas
		",", "u8,", ",u8", "u8,u8", "record<u8,,u8>", "record<,u8>", "record<u8,>", "record<,>", "record<u8;u8>", "record<u8.u8>", "record<u8u8>", "record<u8><u8>", "list<,u8>", "list<u8,>", "list<u8>,", ",list<u8>", "record<u8>,u8", "record<u8,u8", "record,<u8>", "record<u8,u8,>", "result<u8,u8,>", "result<,>", "result<u8,>", "result<,u8>", "record<list<u8>u8>", "record<list<u8,u8>", "record<list<u8,>u8>", "record<u8>u8>", "record<u8,u8>,",
		// how many there are
		"record", "record<>", "variant", "variant<>", "list<u8,u8>", "option", "option<>", "option<u8,u8>", "result", "result<>", "result<u8>", "result<u8,u8,u8>", "result<result<u8>,u8>",
		"record<u8,u8,u8,u8,u8,u8,u8,u8,u8>", "variant<u8,u8,u8,u8,u8,u8,u8,u8,u8>", "flags<0>", "flags<33>", "enum<0>", "enum<301>", "own<10>", "borrow<10>", "own<99>", "list<flags<33>>", "record<own<10>>",
		// very deep, and very long
		strings.Repeat("list<", 8) + "u8" + strings.Repeat(">", 8), strings.Repeat("list<", 100000), strings.Repeat("list<", 100000) + "u8" + strings.Repeat(">", 100000), strings.Repeat("<", 100000), strings.Repeat(">", 100000), strings.Repeat(",", 100000),
		strings.Repeat("u8,", 100000), "record<" + strings.Repeat("u8,", 100000) + "u8>", strings.Repeat("u8", 100000), strings.Repeat("record<u8,", 100000), strings.Repeat("x", 1000000), strings.Repeat("u", 400), strings.Repeat("<,>", 130), strings.Repeat("list<", 80),
	} {
		if l, ok := impl.ReadType(s); ok || len(l) > 0 {
			t.Errorf("ReadType(%.100q) = %v, %t", s, l, ok)
		}
		checkTypeText(t, s)
	}
}

// Promise 11: of all short rows of words just the texts of types are read.
func TestAllShortTypeTexts(t *testing.T) {
	for _, c := range []struct {
		words []string
		most  int
		nodes int
		kinds []typeTree
		read  int
	}{
		{[]string{"<", ">", ",", "u8", "list", "record", "result"}, 7, 4, []typeTree{tree("u8"), tree("list"), tree("record"), tree("result")}, 9},
		{[]string{"<", ">", ",", "u8", "option", "own", "1"}, 7, 4, []typeTree{tree("u8"), tree("option"), counted("own", 1)}, 5},
	} {
		want := map[string]typeTree{}
		for _, x := range smallTrees(c.nodes, c.kinds...) {
			want[x.text()] = x
		}
		read := 0
		var next func(s string, left int)
		next = func(s string, left int) {
			l, ok := impl.ReadType(s)
			x, is := want[s]
			if ok != is || ok && !slices.Equal(l, x.nodes()) {
				t.Fatalf("ReadType(%q) = %v, %t", s, l, ok)
			}
			if ok {
				read++
			}
			for _, word := range c.words {
				if left > 0 {
					next(s+word, left-1)
				}
			}
		}
		next("", c.most)
		if read != c.read {
			t.Errorf("%d were types, want %d", read, c.read)
		}
	}
}

// Promise 11: each text with one byte lacking, doubled, another one, or one more.
func TestTypeTextsOfOneOtherByte(t *testing.T) {
	other := "<>,0123456789 -+abcdefghilmnoprstuvw\x00\n\xff"
	for _, s := range []string{
		"u8", "s16", "string", "list<u8>", "record<u8,s16,char>", "variant<f32,u64>", "flags<10>", "enum<300>", "own<0>", "borrow<9>", "option<bool>", "result<u32,s64>", "record<list<option<u8>>,result<own<1>,flags<32>>,string>",
	} {
		if !checkTypeText(t, s) {
			t.Fatal("meant to be read:", s)
		}
		for at := range len(s) + 1 {
			for _, b := range []byte(other) {
				checkTypeText(t, s[:at]+string([]byte{b})+s[at:])
				if at < len(s) {
					checkTypeText(t, s[:at]+string([]byte{b})+s[at+1:])
				}
			}
			checkTypeText(t, s[:at])
			checkTypeText(t, s[at:])
			if at < len(s) {
				checkTypeText(t, s[:at]+s[at+1:])
				checkTypeText(t, s[:at]+s[at:at+1]+s[at:])
			}
			if at+1 < len(s) {
				checkTypeText(t, s[:at]+s[at+1:at+2]+s[at:at+1]+s[at+2:])
			}
		}
	}
}

// spoiltText: a text of a type in which a word lacks, is doubled, or is another one.
func spoiltText(r *rand.Rand, s string) string {
	words := []string{"<", ">", ",", "<", ">", ",", "u8", "list", "list<", "record<", "option<", "result<", "own<1>", "flags<8>", "0", "1", "9", " ", "-", "x", "string", ""}
	at := r.Intn(len(s) + 1)
	to := min(len(s), at+r.Intn(4))
	switch r.Intn(3) {
	case 0:
		return s[:at] + s[to:]
	case 1:
		return s[:to] + s[at:]
	}
	return s[:at] + words[r.Intn(len(words))] + s[to:]
}

// Promise 11: any texts that are nearly those of types.
func TestTypeTextsSpoilt(t *testing.T) {
	r := rand.New(rand.NewSource(113))
	read := 0
	for range 40000 {
		s := anyTree(r, 1+r.Intn(41), 1+r.Intn(9)).text()
		for range 1 + r.Intn(2) {
			s = spoiltText(r, s)
		}
		if checkTypeText(t, s) {
			read++
		}
	}
	if read < 500 {
		t.Error("too few were types:", read)
	}
}
