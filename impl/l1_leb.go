package impl

import "strings"

const MaxBytes = 4000
const MaxSections = 20

// The limits that the document tells at their places, without a name.
const (
	lastSectionId  = 20
	longestSection = 1000
	longestName    = 100
	lengthBits     = 32
)

type Section struct {
	Id   int
	Body string
}

func UlebBytes(n uint64) string {
	return string(appendUlebs(nil, n))
}

func appendUlebs(b []byte, numbers ...uint64) []byte {
	for _, n := range numbers {
		for n >= 128 {
			b = append(b, byte(n)|128)
			n >>= 7
		}
		b = append(b, byte(n))
	}
	return b
}

func TakeUleb(s string, bits int) (uint64, int) {
	n, took := takeGroups(s, bits)
	if took == 0 || s[took-1]>>roomInLast(bits, took) != 0 {
		return 0, 0
	}
	return n, took
}

// takeGroups joins the groups of seven bits up to the first byte below 128, and tells how many bytes
// these are: 0 where there is no such number of bits. What the last byte may hold is left to the caller,
// because signed numbers and others differ in that alone.
func takeGroups(s string, bits int) (uint64, int) {
	if bits < 1 || bits > 64 {
		return 0, 0
	}
	most := (bits + 6) / 7
	n, took := uint64(0), 0
nextByte:
	if took == most || took == len(s) {
		return 0, 0
	}
	b := s[took]
	n |= uint64(b&127) << (7 * took)
	took++
	if b >= 128 {
		goto nextByte
	}
	return n, took
}

// roomInLast is how many of the bits are not held by the bytes ahead of the last one; more than seven
// where the number has fewer bytes than it might have, and then any last byte will do.
func roomInLast(bits int, took int) int {
	return bits - 7*(took-1)
}

func SlebBytes(n int) string {
	var b []byte
	for n < -64 || n > 63 {
		b = append(b, byte(n)|128)
		n >>= 7
	}
	return string(append(b, byte(n)&127))
}

func TakeSleb(s string, bits int) (int, int) {
	n, took := takeGroups(s, bits)
	if took == 0 {
		return 0, 0
	}
	last := signedGroup(s[took-1])
	// From the sign on all bits are alike just where nothing but the sign is left of them.
	rest := last >> (roomInLast(bits, took) - 1)
	if rest != 0 && rest != -1 {
		return 0, 0
	}
	if last < 0 {
		n |= ^uint64(0) << (7 * took)
	}
	return int(n), took
}

func signedGroup(b byte) int8 {
	return int8(b<<1) >> 1
}

func UlebSize(n uint64) int {
	size := 1
	for n >= 128 {
		n >>= 7
		size++
	}
	return size
}

func SectionsBytes(l []Section) (string, bool) {
	if !goodSections(l) {
		return "", false
	}
	var b []byte
	for _, x := range l {
		// A good Id is below 128, so that as a number it is just its byte.
		b = appendUlebs(b, uint64(x.Id), uint64(len(x.Body)))
		b = append(b, x.Body...)
	}
	if len(b) > MaxBytes {
		return "", false
	}
	return string(b), true
}

func goodSections(l []Section) bool {
	if len(l) > MaxSections {
		return false
	}
	before := -1
	for _, x := range l {
		if x.Id <= before || x.Id > lastSectionId || len(x.Body) > longestSection {
			return false
		}
		before = x.Id
	}
	return true
}

func ReadSections(s string) ([]Section, bool) {
	if len(s) > MaxBytes {
		return nil, false
	}
	var l []Section
	for len(s) > 0 {
		body, took, ok := takeText(s[1:], longestSection)
		if !ok {
			return nil, false
		}
		l = append(l, Section{Id: int(s[0]), Body: body})
		s = s[1+took:]
	}
	if !goodSections(l) {
		return nil, false
	}
	return l, true
}

// takeText takes a length and as many bytes from the front, and tells how many bytes both are.
func takeText(s string, most uint64) (string, int, bool) {
	n, took := TakeUleb(s, lengthBits)
	if took == 0 || n > most || n > uint64(len(s)-took) {
		return "", 0, false
	}
	end := took + int(n)
	// A piece of s would share its memory; answers are new.
	return strings.Clone(s[took:end]), end, true
}

func NameBytes(s string) (string, bool) {
	if len(s) > longestName {
		return "", false
	}
	return UlebBytes(uint64(len(s))) + s, true
}

func TakeName(s string) (string, int, bool) {
	return takeText(s, longestName)
}
