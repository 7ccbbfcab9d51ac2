package tests

import (
	"fmt"
	"math"
	"slices"
	"strings"
	"testing"

	"loop.example/g00209/impl"
)

// Promise 8: each trap by itself, with what is left of 100 and the state in the end: what was done stays done.
func TestTrapsWrittenOut(t *testing.T) {
	for _, c := range []struct {
		sign, body, args string
		trap, steps      int
		end              string
	}{
		{">", "unreachable end", "", impl.TrapUnreachable, 1, "p1"},
		{">i", "nop i:1 unreachable end", "", impl.TrapUnreachable, 3, "p1"},
		{">", "i:5 gset:0 i:0 i:7 store32 i:1 grow unreachable end", "", impl.TrapUnreachable, 8, "p2 g0=5 m0=7"},
		{">", "block loop i:1 if unreachable end end end end", "", impl.TrapUnreachable, 5, "p1"},

		{"i>i", "get:0 i:0 i32+4 end", "i:7", impl.TrapDivision, 3, "p1"},
		{"i>i", "get:0 i:0 i32+5 end", "i:7", impl.TrapDivision, 3, "p1"},
		{"i>i", "get:0 i:0 i32+6 end", "i:7", impl.TrapDivision, 3, "p1"},
		{"i>i", "get:0 i:0 i32+7 end", "i:7", impl.TrapDivision, 3, "p1"},
		{"I>I", "get:0 I:0 i64+4 end", "I:7", impl.TrapDivision, 3, "p1"},
		{"I>I", "get:0 I:0 i64+5 end", "I:7", impl.TrapDivision, 3, "p1"},
		{"I>I", "get:0 I:0 i64+6 end", "I:7", impl.TrapDivision, 3, "p1"},
		{"I>I", "get:0 I:0 i64+7 end", "I:7", impl.TrapDivision, 3, "p1"},
		{">", "i:1 gset:0 i:1 i:0 i32+4 gset:0 end", "", impl.TrapDivision, 5, "p1 g0=1"},

		{"i>i", "get:0 i:-1 i32+4 end", "i:-2147483648", impl.TrapRange, 3, "p1"},
		{"I>I", "get:0 I:-1 i64+4 end", "I:-9223372036854775808", impl.TrapRange, 3, "p1"},
		{">i", "f:2143289344 toint end", "", impl.TrapRange, 2, "p1"}, // no number
		{">i", "f:2139095040 toint end", "", impl.TrapRange, 2, "p1"}, // infinite
		{">i", "f:4286578688 toint end", "", impl.TrapRange, 2, "p1"},
		{">i", "f:1325400064 toint end", "", impl.TrapRange, 2, "p1"}, // 2 to the power of 31
		{">i", "f:3472883713 toint end", "", impl.TrapRange, 2, "p1"}, // the next below -2 to that power

		{">i", "i:253 load32 end", "", impl.TrapBounds, 2, "p1"},
		{">I", "i:249 load64 end", "", impl.TrapBounds, 2, "p1"},
		{">", "i:253 i:-1 store32 end", "", impl.TrapBounds, 3, "p1"}, // nothing of it is stored
		{">", "i:249 I:-1 store64 end", "", impl.TrapBounds, 3, "p1"},
		{">", "i:5 gset:0 i:0 i:7 store32 i:256 i:9 store32 end", "", impl.TrapBounds, 8, "p1 g0=5 m0=7"},
	} {
		checkWords(t, funcOf(c.sign, "", c.body), c.args, impl.Outcome{Code: impl.RunTrap, Trap: c.trap, Left: 100 - c.steps}, c.end)
	}
	// at the edges of what is told
	checkWords(t, funcOf(">i", "", "f:3472883712 toint end"), "", impl.Outcome{Value: wordOrNone("i:-2147483648"), Left: 97}, "p1")
	checkWords(t, funcOf(">i", "", "f:1325400063 toint end"), "", impl.Outcome{Value: wordOrNone("i:2147483520"), Left: 97}, "p1")
}

// Promise 8: RunStuck, where an instruction does not find what it needs, with what is left of 100 and the state then.
func TestStuckWrittenOut(t *testing.T) {
	for _, c := range []struct {
		sign, body string
		steps      int
	}{
		// a word that is missing
		{">i", "end", 1},
		{">", "drop end", 1},
		{">i", "i:1 i32+1 end", 2},
		{">i", "i32+25 end", 1},
		{">i", "f:1 f32+7 end", 2},
		{">", "if end end", 1},
		{">", "brif:0 end", 1},
		{">i", "i:1 brif:0 end", 2},
		{">i", "br:0 end", 1},
		{">i", "return end", 1},
		{">", "select end", 1},
		{">", "i:1 select end", 2},
		{">", "i:1 i:1 select end", 3},
		{">", "gset:0 end", 1},
		{"i>", "set:0 end", 1},
		{"i>", "tee:0 end", 1},
		{">", "I:1 f:1 call:2 end", 3},
		{">", "call:3 end", 1},
		{">", "load32 end", 1},
		{">", "i:0 store32 end", 2},
		{">", "grow end", 1},
		{">", "toint end", 1},

		// one of another type
		{">i", "I:1 end", 2},
		{">f", "i:1 end", 2},
		{">i", "i:1 I:1 i32+1 end", 3},
		{">i", "I:1 i:1 i32+1 end", 3},
		{">I", "i:1 i64+22 end", 2},
		{">i", "f:1 i:1 f32+7 end", 3},
		{">", "I:1 if end end", 2},
		{">", "f:1 brif:0 end", 2},
		{">i", "f:1 i:1 brif:0 end", 3},
		{">i", "f:1 br:0 end", 2},
		{">i", "f:1 return end", 2},
		{">", "i:1 i:1 I:1 select end", 4},
		{">", "i:1 I:1 i:1 select end", 4},
		{">", "f:1 i:1 i:1 select end", 4},
		{">", "f:1 gset:0 end", 2},
		{"i>", "I:1 set:0 end", 2},
		{"i>", "I:1 tee:0 end", 2},
		{">", "f:1 I:1 f:1 call:2 end", 4},
		{">", "i:1 call:3 end", 2},
		{">", "I:0 load32 end", 2},
		{">", "i:0 I:0 store32 end", 3},
		{">", "I:0 i:0 store32 end", 3},
		{">", "i:0 i:0 store64 end", 3},
		{">", "f:1 grow end", 2},
		{">", "I:1 tofloat end", 2},
		{">", "i:1 wrap end", 2},
		{">", "I:1 extends end", 2},

		// what lies below the height of the innermost block
		{">", "i:1 block drop end end", 3},
		{">i", "i:1 block:i end end", 3},
		{">i", "i:1 loop:i end end", 3},
		{">", "i:1 i:1 if drop end end", 4},
		{">", "i:1 i:0 if else drop end end", 4},
		{">i", "i:1 block br:1 end end", 3},
		{">i", "i:1 block return end end", 3},
		{">i", "i:1 block i:1 brif:1 end end", 4},
		{">", "f:1 block call:3 end end", 3},
		{">", "i:1 i:1 block i:1 i32+1 end end", 5},

		// a label
		{">", "br:1 end", 1},
		{">", "br:1000 end", 1},
		{">", "i:1 brif:1 end", 2},
		{">", "i:0 brif:1 end", 2},
		{">", "block br:2 end end", 2},
		{">", "block end br:1 end", 3},
		{">", "block br:0 end br:1 end", 3},
		{">", "i:0 if end br:1 end", 3},
		{">", "i:1 if else end br:1 end", 4},

		// an index
		{"i>", "get:1 end", 1},
		{"i>", "i:1 set:1 end", 2},
		{"i>", "i:1 tee:1000 end", 2},
		{">", "gget:3 end", 1},
		{">", "i:1 gset:3 end", 2},
		{">", "call:4 end", 1},
		{">", "call:1000 end", 1},

		// words left at an InEnd or an InElse
		{">", "i:1 end", 2},
		{">i", "i:1 i:1 end", 3},
		{">i", "I:1 i:1 end", 3},
		{">", "block i:1 end end", 3},
		{">", "loop i:1 end end", 3},
		{">", "i:1 if i:1 else end end", 4},
		{">", "i:0 if else i:1 end end", 4},
		{">i", "i:1 if:i i:1 i:1 else i:1 end end", 5},
		{">i", "i:0 if:i i:1 else i:1 i:1 end end", 5},
		{">i", "i:1 if:i else i:1 end end", 3},
		{">i", "i:1 if:i f:1 else i:1 end end", 4},
	} {
		m := moduleOf(funcOf(c.sign, "", c.body))
		args := wordsOf("i:3")[:len(m.Funcs[0].Params)]
		checkRun(t, m, stateOf(t, m), 0, args, 100, stateOf(t, m), impl.Outcome{Code: impl.RunStuck, Left: 100 - c.steps})
	}
	checkWords(t, funcOf(">", "", "i:5 gset:0 i:0 i:7 store32 i:1 grow drop drop end"), "", impl.Outcome{Code: impl.RunStuck, Left: 91}, "p2 g0=5 m0=7")
}

// Without a memory each of those that need one is stuck, whatever there is on the stack.
func TestStuckWithoutMemory(t *testing.T) {
	for _, word := range []string{"load32", "load64", "store32", "store64", "size", "grow"} {
		for _, ahead := range []string{"", "i:0", "i:0 i:0", "i:0 I:0", "f:1"} {
			m := moduleOf(funcOf(">", "", ahead+" "+word+" drop end"))
			m.Memory, m.Pages, m.Most = false, 0, 0
			checkRun(t, m, stateOf(t, m), 0, nil, 100, stateOf(t, m), impl.Outcome{Code: impl.RunStuck, Left: 99 - len(strings.Fields(ahead))})
		}
	}
}

// A func that is not told right may come to its end all the same: what is not met does not matter, and only what an
// instruction needs is asked for.
func TestRunsOfWhatIsNotWellTyped(t *testing.T) {
	for _, c := range []struct {
		sign, body, value string
		steps             int
		end               string
	}{
		{">i", "i:1 br:0 drop drop call:99 end", "i:1", 2, "p1"},
		{">i", "i:1 return i:1 i:1 end", "i:1", 2, "p1"},
		{">", "block br:0 drop end end", "", 3, "p1"},
		{">i", "i:1 if:i i:4 end end", "i:4", 5, "p1"},
		{">i", "i:0 if:i i:4 end i:9 end", "i:9", 4, "p1"}, // nothing is put
		{">i", "i:1 if:i i:4 else drop end end", "i:4", 5, "p1"},
		{">i", "i:0 brif:0 i:7 end", "i:7", 4, "p1"}, // where it does not branch it wants nothing
		{">i", "f:7 i:0 brif:0 drop i:8 end", "i:8", 6, "p1"},
		{">I", "I:7 gset:1 gget:1 end", "I:7", 4, "p1 g1=7"}, // of what is Fixed the document's list says nothing
		{">", "call:1 end", "", 3, "p1"},
	} {
		checkWords(t, funcOf(c.sign, "", c.body), "", impl.Outcome{Value: wordOrNone(c.value), Left: 100 - c.steps}, c.end)
	}
	m := moduleOf(funcOf(">", "", "drop end"))
	checkRun(t, m, stateOf(t, m), 3, wordsOf("f:1"), 5, stateOf(t, m), impl.Outcome{Left: 4})
}

// Promise 8: fuel is taken ahead of all: none at all, just enough, one less, MaxFuel; what would trap or get stuck does
// so only with fuel for it.
func TestFuelAtItsEdges(t *testing.T) {
	for _, c := range []struct {
		sign, body string
		want       impl.Outcome
		steps      int
	}{
		{">", "end", impl.Outcome{}, 1},
		{">i", "i:1 i:2 i32+1 end", impl.Outcome{Value: wordOrNone("i:3")}, 4},
		{">", "call:1 end", impl.Outcome{}, 3},
		{">", "nop unreachable end", impl.Outcome{Code: impl.RunTrap, Trap: impl.TrapUnreachable}, 2},
		{">", "i:1 i:0 i32+4 end", impl.Outcome{Code: impl.RunTrap, Trap: impl.TrapDivision}, 3},
		{">", "drop end", impl.Outcome{Code: impl.RunStuck}, 1},
		{">", "br:9 end", impl.Outcome{Code: impl.RunStuck}, 1},
		{">", "i:1 end", impl.Outcome{Code: impl.RunStuck}, 2},
		{">", "nop call:9 end", impl.Outcome{Code: impl.RunStuck}, 2},
	} {
		m := moduleOf(funcOf(c.sign, "", c.body))
		for fuel := range 20 {
			want := c.want
			want.Left = fuel - c.steps
			if fuel < c.steps {
				want = impl.Outcome{Code: impl.RunFuel}
			}
			checkRun(t, m, stateOf(t, m), 0, nil, fuel, stateOf(t, m), want)
		}
		want := c.want
		want.Left = impl.MaxFuel - c.steps
		checkRun(t, m, stateOf(t, m), 0, nil, impl.MaxFuel, stateOf(t, m), want)
		for _, fuel := range []int{impl.MaxFuel + 1, -1, math.MaxInt, math.MinInt} {
			checkRun(t, m, stateOf(t, m), 0, nil, fuel, impl.State{}, impl.Outcome{Code: impl.RunBad})
		}
	}
}

// A loop that never ends, calls that go on and on, and a run that takes all of MaxFuel and not one more.
func TestFuelRunsOut(t *testing.T) {
	for _, body := range []string{"loop br:0 end end", "loop loop br:1 end end end", "loop i:1 brif:0 end end"} {
		m := moduleOf(funcOf(">", "", body))
		for _, fuel := range []int{0, 1, 2, 3, 100, impl.MaxFuel} {
			checkRun(t, m, stateOf(t, m), 0, nil, fuel, stateOf(t, m), impl.Outcome{Code: impl.RunFuel})
		}
	}
	// each round takes five steps: one more in the global
	m := moduleOf(funcOf(">", "", "loop gget:0 i:1 i32+1 gset:0 br:0 end end"))
	for _, c := range []struct{ fuel, rounds int }{{0, 0}, {4, 0}, {5, 1}, {6, 1}, {9, 1}, {10, 2}, {4999, 999}, {5000, 1000}} {
		end := stateOf(t, m)
		end.Globals[0].Bits = uint64(c.rounds)
		checkRun(t, m, stateOf(t, m), 0, nil, c.fuel, end, impl.Outcome{Code: impl.RunFuel})
	}
	// 3 and 5 steps a round
	m = moduleOf(funcOf("i>", "", "nop nop nop loop get:0 i:1 i32+2 tee:0 brif:0 end end"))
	checkRun(t, m, stateOf(t, m), 0, wordsOf("i:998"), impl.MaxFuel, stateOf(t, m), impl.Outcome{Left: 4})
	checkRun(t, m, stateOf(t, m), 0, wordsOf("i:998"), 4996, stateOf(t, m), impl.Outcome{})
	checkRun(t, m, stateOf(t, m), 0, wordsOf("i:998"), 4995, stateOf(t, m), impl.Outcome{Code: impl.RunFuel})
	checkRun(t, m, stateOf(t, m), 0, wordsOf("i:999"), impl.MaxFuel, stateOf(t, m), impl.Outcome{Code: impl.RunFuel})
}

// Promise 8: a call within MaxCalls calls is TrapDepth: ahead of its args, behind its func not being there.
func TestCallDepth(t *testing.T) {
	m := moduleOf(funcOf("I>I", "", factorial))
	s := stateOf(t, m)
	checkRun(t, m, s, 0, wordsOf("I:19"), 1000, s, impl.Outcome{Value: wordOrNone("I:121645100408832000"), Left: 1000 - 19*11 - 6})
	checkRun(t, m, s, 0, wordsOf("I:20"), 1000, s, impl.Outcome{Value: wordOrNone("I:2432902008176640000"), Left: 1000 - 20*11 - 6})
	checkRun(t, m, s, 0, wordsOf("I:21"), 1000, s, impl.Outcome{Code: impl.RunTrap, Trap: impl.TrapDepth, Left: 1000 - 21*7})
	checkRun(t, m, s, 0, wordsOf("I:-1"), 1000, s, impl.Outcome{Code: impl.RunTrap, Trap: impl.TrapDepth, Left: 1000 - 21*7})
	checkRun(t, m, s, 0, wordsOf("I:21"), 21*7-1, s, impl.Outcome{Code: impl.RunFuel})

	// down counts a global up to n, and calls then what it is asked to
	for _, c := range []struct {
		last string
		want impl.Outcome
	}{
		{"call:0", impl.Outcome{Code: impl.RunTrap, Trap: impl.TrapDepth}},
		{"call:2", impl.Outcome{Code: impl.RunTrap, Trap: impl.TrapDepth}}, // its args are missing
		{"f:1 call:2", impl.Outcome{Code: impl.RunTrap, Trap: impl.TrapDepth}},
		{"call:4", impl.Outcome{Code: impl.RunStuck}}, // there is no such func
		{"call:1000", impl.Outcome{Code: impl.RunStuck}},
	} {
		m := moduleOf(funcOf(">", "", "gget:0 i:1 i32+1 gset:0 gget:0 i:20 i32+21 if "+c.last+" end call:0 end"))
		want := c.want
		want.Left = 1000 - 20*9 - 8 - len(strings.Fields(c.last))
		end := stateOf(t, m)
		end.Globals[0].Bits = 21
		checkRun(t, m, stateOf(t, m), 0, nil, 1000, end, want)
	}

	// what has come back counts no more
	m = moduleOf(funcOf(">", "", timesWord("call:1", 199)+"end"))
	checkRun(t, m, stateOf(t, m), 0, nil, 1000, stateOf(t, m), impl.Outcome{Left: 1000 - 2*199 - 1})
	m = moduleOf(funcOf("i>", "", "get:0 if get:0 i:1 i32+2 call:0 end call:1 end"))
	checkRun(t, m, stateOf(t, m), 0, wordsOf("i:19"), 1000, stateOf(t, m), impl.Outcome{Left: 1000 - 19*10 - 5})
	checkRun(t, m, stateOf(t, m), 0, wordsOf("i:20"), 1000, stateOf(t, m), impl.Outcome{Code: impl.RunTrap, Trap: impl.TrapDepth, Left: 1000 - 20*6 - 3})
}

// Promise 8: loads and stores at the last place of a memory and one beyond, with great places and offsets; the place is
// unsigned, and does not turn round.
func TestRunsAtTheEndOfMemory(t *testing.T) {
	for _, pages := range []int{0, 1, 2, 8} {
		size := 256 * pages
		for _, c := range []struct {
			word, value string
			bytes       int
		}{{"load32", "", 4}, {"load64", "", 8}, {"store32", "i:-1", 4}, {"store64", "I:-1", 8}} {
			for _, offset := range []int{0, 1, 7, size, 10000} {
				for _, place := range []int{0, 1, size - c.bytes - offset - 1, size - c.bytes - offset, size - c.bytes - offset + 1, size - c.bytes - offset + 2,
					size - offset, size - 1, size, size + 1, math.MaxInt32, math.MinInt32, -1, -2, -4, -8, -offset, -offset + 1} {
					body := fmt.Sprintf("i:%d %s %s:%d %s end", place, c.value, c.word, offset, map[bool]string{true: "", false: "drop"}[c.value != ""])
					m := moduleOf(funcOf(">", "", body))
					m.Pages, m.Most = pages, 8
					s := stateOf(t, m)
					at := int(uint32(place)) + offset
					end := s
					want := impl.Outcome{Left: 100 - len(strings.Fields(body))}
					if at+c.bytes > size {
						want = impl.Outcome{Code: impl.RunTrap, Trap: impl.TrapBounds, Left: 98 - len(strings.Fields(c.value))}
					} else if c.value != "" {
						end.Memory.Data = s.Memory.Data[:at] + strings.Repeat("\xff", c.bytes) + s.Memory.Data[at+c.bytes:]
					}
					checkRun(t, m, s, 0, nil, 100, end, want)
				}
			}
		}
	}
}

// Promise 8: InGrow by 0, by as many as there may be, by one more, by numbers that are none; InSize behind it.
func TestRunsThatGrow(t *testing.T) {
	for most := range impl.MaxPages + 1 {
		for pages := range most + 1 {
			for _, by := range []int{0, 1, most - pages, most - pages + 1, 7, 8, 9, 256, 1 << 16, math.MaxInt32, math.MinInt32, -1, -pages} {
				m := moduleOf(funcOf(">i", "", fmt.Sprintf("i:%d grow i:1000 i32+3 size i32+1 end", by)))
				m.Pages, m.Most = pages, most
				end := stateOf(t, m)
				was, now := pages, pages+by
				if by < 0 || now > most {
					was, now = -1, pages
				}
				end.Memory.Data = strings.Repeat("\x00", 256*now)
				value := impl.Word{Type: impl.TypeI32, Bits: uint64(uint32(was*1000 + now))}
				checkRun(t, m, stateOf(t, m), 0, nil, 100, end, impl.Outcome{Value: value, Left: 93})
			}
		}
	}
	// what was there stays, what is new is 0, and is written
	checkWords(t, funcOf(">I", "", "i:252 i:-1 store32 i:1 grow drop i:252 load64 i:508 i:7 store32 end"), "",
		impl.Outcome{Value: wordOrNone("I:4294967295"), Left: 88}, "p2 m252=ff m253=ff m254=ff m255=ff m508=7")
}

// Words that are good, and such as are not.
func TestGoodWords(t *testing.T) {
	bits := append(edgeWords(), 0, math.MaxUint64, 1<<32-1, 1<<32)
	for _, kind := range append(nearTypes(), math.MaxInt, math.MinInt, 127+256, -127) {
		for _, b := range bits {
			want := kind == 126 || (kind == 127 || kind == 125) && b < 1<<32
			if got := impl.GoodWord(impl.Word{Type: kind, Bits: b}); got != want {
				t.Errorf("GoodWord of type %d, bits %x: %t", kind, b, got)
			}
		}
	}
}

// badStates: such as are not good for moduleOf.
func badStates() []impl.State {
	page := strings.Repeat("\x00", 256)
	words := wordsOf("i:1 I:2 f:3")
	with := func(i int, w impl.Word) []impl.Word {
		l := slices.Clone(words)
		l[i] = w
		return l
	}
	mem := impl.Memory{Max: 2, Data: page}
	return []impl.State{
		{}, {Memory: mem}, {Globals: words},
		{Memory: impl.Memory{Max: 1, Data: page}, Globals: words},
		{Memory: impl.Memory{Max: 3, Data: page}, Globals: words},
		{Memory: impl.Memory{Max: 8, Data: page}, Globals: words},
		{Memory: impl.Memory{Max: -2, Data: page}, Globals: words},
		{Memory: impl.Memory{Max: 2, Data: page + page + page}, Globals: words},
		{Memory: impl.Memory{Max: 2, Data: page + "x"}, Globals: words},
		{Memory: impl.Memory{Max: 2, Data: page[1:]}, Globals: words},
		{Memory: mem, Globals: words[:2]}, {Memory: mem, Globals: append(slices.Clone(words), words[0])}, {Memory: mem, Globals: words[1:]},
		{Memory: mem, Globals: with(0, words[1])}, {Memory: mem, Globals: with(1, words[0])}, {Memory: mem, Globals: with(2, words[0])},
		{Memory: mem, Globals: with(0, impl.Word{Type: impl.TypeI32, Bits: 1 << 32})},
		{Memory: mem, Globals: with(2, impl.Word{Type: impl.TypeF32, Bits: math.MaxUint64})},
		{Memory: mem, Globals: with(1, impl.Word{Type: impl.TypeNone})}, {Memory: mem, Globals: with(1, impl.Word{})},
		{Memory: mem, Globals: make([]impl.Word, 100000)},
	}
}

// States are good for their module alone, with any number of pages up to its Most.
func TestGoodStates(t *testing.T) {
	m := moduleOf(funcOf(">", "", "end"))
	for _, s := range badStates() {
		if impl.GoodState(m, s) {
			t.Errorf("good: %.200v", s)
		}
		checkRun(t, m, s, 0, nil, 10, impl.State{}, impl.Outcome{Code: impl.RunBad})
	}
	for pages := range 3 {
		s := impl.State{Memory: impl.Memory{Max: 2, Data: strings.Repeat("\x01", 256*pages)}, Globals: wordsOf("i:-1 I:-2 f:-3")}
		if !impl.GoodState(m, s) {
			t.Errorf("not good: %d pages", pages)
		}
		checkRun(t, m, s, 0, nil, 10, s, impl.Outcome{Left: 9})
	}
	none := impl.Module{Start: -1, Funcs: []impl.Func{funcOf(">", "", "end")}}
	for _, c := range []struct {
		memory impl.Memory
		good   bool
	}{{impl.Memory{}, true}, {impl.Memory{Max: 1}, false}, {impl.Memory{Max: 1, Data: strings.Repeat("\x00", 256)}, false}, {impl.Memory{Data: "\x00"}, false}, {impl.Memory{Data: strings.Repeat("\x00", 256)}, false}} {
		if got := impl.GoodState(none, impl.State{Memory: c.memory}); got != c.good {
			t.Errorf("without Memory: %v: %t", c.memory, got)
		}
	}
	empty := impl.Module{Start: -1, Memory: true}
	if !impl.GoodState(empty, impl.State{}) || impl.GoodState(empty, impl.State{Memory: impl.Memory{Max: 1}}) {
		t.Error("a memory that has no pages and may have none")
	}
	if impl.GoodState(impl.Module{}, impl.State{}) || impl.GoodState(impl.Module{Start: -1, Pages: 1}, impl.State{}) {
		t.Error("a state of a module without shape")
	}
}

// RunBad, with the zero state, for whatever is not as said.
func TestRunsRefused(t *testing.T) {
	bad := impl.Outcome{Code: impl.RunBad}
	m := moduleOf(funcOf("iIf>", "", "end"))
	s := stateOf(t, m)
	right := wordsOf("i:1 I:-2 f:3")
	checkRun(t, m, s, 0, right, 10, s, impl.Outcome{Left: 9})
	for _, k := range []int{-1, 4, 5, math.MaxInt, math.MinInt} {
		checkRun(t, m, s, k, nil, 10, impl.State{}, bad)
		checkRun(t, m, s, k, right, 10, impl.State{}, bad)
	}
	for _, args := range []string{"", "i:1", "i:1 I:-2", "i:1 I:-2 f:3 i:4", "I:1 I:-2 f:3", "i:1 i:2 f:3", "i:1 I:-2 i:3", "f:3 I:-2 i:1"} {
		checkRun(t, m, s, 0, wordsOf(args), 10, impl.State{}, bad)
	}
	for i, w := range []impl.Word{{Type: impl.TypeI32, Bits: 1 << 32}, {Type: impl.TypeNone}, {Type: impl.TypeF32, Bits: math.MaxUint64}} {
		args := slices.Clone(right)
		args[i] = w
		checkRun(t, m, s, 0, args, 10, impl.State{}, bad)
	}
	checkRun(t, m, s, 0, make([]impl.Word, 100000), 10, impl.State{}, bad)
	for _, spoil := range []func(m *impl.Module){
		func(m *impl.Module) { m.Start = 0 }, // it has Params
		func(m *impl.Module) { m.Start = 4 },
		func(m *impl.Module) { m.Memory = false },
		func(m *impl.Module) { m.Pages = 3 },
		func(m *impl.Module) { m.Globals[0].Bits = 1 << 32 },
		func(m *impl.Module) { m.Funcs[3].Body = nil },
		func(m *impl.Module) { m.Funcs[3].Result = 0 },
		func(m *impl.Module) { m.Funcs = append(m.Funcs, slices.Repeat(m.Funcs[1:2], 7)...) },
	} {
		other := copyOf(m)
		spoil(&other)
		checkRun(t, other, s, 0, right, 10, impl.State{}, bad)
		if got, ok := impl.FirstState(other); ok || !sameState(got, impl.State{}) {
			t.Errorf("a first state: %v", got)
		}
	}
}
