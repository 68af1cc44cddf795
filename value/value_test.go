package value

import (
	"math"
	"strings"
	"testing"
	"unsafe"

	"telltale/api"
)

// Doubles by their bits.
const (
	minus0   uint64 = 0x8000000000000000
	least    uint64 = 0x0000000000000001
	one      uint64 = 0x3ff0000000000000
	greatest uint64 = 0x7fefffffffffffff
	infinite uint64 = 0x7ff0000000000000
	clean    uint64 = 0x7ff8000000000000
	below    uint64 = 0x8000000000000000 // the sign
)

// unclean are bits of what is no number, but for the clean ones.
var unclean = []uint64{
	0x7ff0000000000001, 0x7ff7ffffffffffff, 0x7ff8000000000001, 0x7fffffffffffffff,
	0xfff0000000000001, 0xfff7ffffffffffff, 0xfff8000000000000, 0xfff8000000000001, 0xffffffffffffffff,
}

var longest = strings.Repeat("\xff", 23) + "\x00" // a text of as many bytes as may be

// rising are values that may be, each ahead of the next one, and the bytes that the document's words say they have.
var rising = []struct {
	v Value
	s string
}{
	{Value{Kind: Int, N: -api.MaxNum}, "\x01\xff\xff\xff\xff\xff\xff\xff\xff\x7f"},
	{Value{Kind: Int, N: 1 - api.MaxNum}, "\x01\xfd\xff\xff\xff\xff\xff\xff\xff\x7f"},
	{Value{Kind: Int, N: -65}, "\x01\x81\x01"},
	{Value{Kind: Int, N: -64}, "\x01\x7f"},
	{Value{Kind: Int, N: -3}, "\x01\x05"},
	{Value{Kind: Int, N: -1}, "\x01\x01"},
	{Value{Kind: Int, N: 0}, "\x01\x00"},
	{Value{Kind: Int, N: 1}, "\x01\x02"},
	{Value{Kind: Int, N: 2}, "\x01\x04"},
	{Value{Kind: Int, N: 63}, "\x01\x7e"},
	{Value{Kind: Int, N: 64}, "\x01\x80\x01"},
	{Value{Kind: Int, N: 150}, "\x01\xac\x02"},
	{Value{Kind: Int, N: api.MaxNum - 1}, "\x01\xfe\xff\xff\xff\xff\xff\xff\xff\x7f"},
	{Value{Kind: Int, N: api.MaxNum}, "\x01\x80\x80\x80\x80\x80\x80\x80\x80\x80\x01"},
	{Value{Kind: Flag, N: 0}, "\x02\x00"},
	{Value{Kind: Flag, N: 1}, "\x02\x01"},
	{Value{Kind: Real, Bits: infinite | below}, "\x03\xff\xf0\x00\x00\x00\x00\x00\x00"},
	{Value{Kind: Real, Bits: greatest | below}, "\x03\xff\xef\xff\xff\xff\xff\xff\xff"},
	{Value{Kind: Real, Bits: one | below}, "\x03\xbf\xf0\x00\x00\x00\x00\x00\x00"},
	{Value{Kind: Real, Bits: least | below}, "\x03\x80\x00\x00\x00\x00\x00\x00\x01"},
	{Value{Kind: Real, Bits: minus0}, "\x03\x80\x00\x00\x00\x00\x00\x00\x00"},
	{Value{Kind: Real, Bits: 0}, "\x03\x00\x00\x00\x00\x00\x00\x00\x00"},
	{Value{Kind: Real, Bits: least}, "\x03\x00\x00\x00\x00\x00\x00\x00\x01"},
	{Value{Kind: Real, Bits: 0x0123456789abcdef}, "\x03\x01\x23\x45\x67\x89\xab\xcd\xef"},
	{Value{Kind: Real, Bits: one}, "\x03\x3f\xf0\x00\x00\x00\x00\x00\x00"},
	{Value{Kind: Real, Bits: greatest}, "\x03\x7f\xef\xff\xff\xff\xff\xff\xff"},
	{Value{Kind: Real, Bits: infinite}, "\x03\x7f\xf0\x00\x00\x00\x00\x00\x00"},
	{Value{Kind: Real, Bits: clean}, "\x03\x7f\xf8\x00\x00\x00\x00\x00\x00"},
	{Value{Kind: Text, Text: ""}, "\x04\x00"},
	{Value{Kind: Text, Text: "\x00"}, "\x04\x01\x00"},
	{Value{Kind: Text, Text: "Z"}, "\x04\x01Z"},
	{Value{Kind: Text, Text: "a"}, "\x04\x01a"},
	{Value{Kind: Text, Text: "a\x00"}, "\x04\x02a\x00"},
	{Value{Kind: Text, Text: "ab"}, "\x04\x02ab"},
	{Value{Kind: Text, Text: "b"}, "\x04\x01b"},
	{Value{Kind: Text, Text: "\x7f"}, "\x04\x01\x7f"},
	{Value{Kind: Text, Text: "\x80"}, "\x04\x01\x80"},
	{Value{Kind: Text, Text: "\u00e9"}, "\x04\x02\xc3\xa9"},
	{Value{Kind: Text, Text: "\xff"}, "\x04\x01\xff"},
	{Value{Kind: Text, Text: longest[:23]}, "\x04\x17" + longest[:23]},
	{Value{Kind: Text, Text: longest}, "\x04\x18" + longest},
}

// wrong are values that may not be, and the error that each is answered by.
var wrong = []struct {
	v Value
	e api.Errno
}{
	{Value{}, api.ErrKind},
	{Value{Kind: 5}, api.ErrKind},
	{Value{Kind: 255}, api.ErrKind},
	{Value{Kind: 5, N: 1, Bits: 1, Text: "a"}, api.ErrKind},
	{Value{N: math.MinInt, Bits: unclean[0], Text: longest + "x"}, api.ErrKind},

	{Value{Kind: Int, N: api.MaxNum + 1}, api.ErrRange},
	{Value{Kind: Int, N: -api.MaxNum - 1}, api.ErrRange},
	{Value{Kind: Int, N: math.MaxInt}, api.ErrRange},
	{Value{Kind: Int, N: math.MinInt}, api.ErrRange},
	{Value{Kind: Int, N: math.MinInt, Bits: 1, Text: "a"}, api.ErrRange},
	{Value{Kind: Int, N: api.MaxNum + 1, Bits: unclean[0], Text: longest + "x"}, api.ErrRange},
	{Value{Kind: Flag, N: 2}, api.ErrRange},
	{Value{Kind: Flag, N: -1}, api.ErrRange},
	{Value{Kind: Flag, N: 256}, api.ErrRange},
	{Value{Kind: Flag, N: math.MinInt}, api.ErrRange},
	{Value{Kind: Flag, N: 2, Bits: 1, Text: "a"}, api.ErrRange},

	{Value{Kind: Real, Bits: 0xfff8000000000000}, api.ErrForm},
	{Value{Kind: Real, Bits: 0x7ff0000000000001}, api.ErrForm},
	{Value{Kind: Real, Bits: 0x7ff8000000000001, N: 1}, api.ErrForm},
	{Value{Kind: Real, Bits: 0xffffffffffffffff, N: math.MaxInt, Text: longest + "x"}, api.ErrForm},

	{Value{Kind: Text, Text: longest + "x"}, api.ErrLong},
	{Value{Kind: Text, Text: strings.Repeat("a", 70000)}, api.ErrLong},
	{Value{Kind: Text, Text: longest + "x", N: 1}, api.ErrLong},
	{Value{Kind: Text, Text: longest + "x", Bits: unclean[0]}, api.ErrLong},

	{Value{Kind: Int, N: 1, Bits: 1}, api.ErrArg},
	{Value{Kind: Int, Text: "a"}, api.ErrArg},
	{Value{Kind: Int, Bits: unclean[0]}, api.ErrArg},
	{Value{Kind: Int, Text: longest + "x"}, api.ErrArg},
	{Value{Kind: Flag, N: 1, Bits: minus0}, api.ErrArg},
	{Value{Kind: Flag, Text: "\x00"}, api.ErrArg},
	{Value{Kind: Real, Bits: one, N: 1}, api.ErrArg},
	{Value{Kind: Real, N: math.MinInt}, api.ErrArg},
	{Value{Kind: Real, Bits: clean, Text: "a"}, api.ErrArg},
	{Value{Kind: Real, Text: longest + "x"}, api.ErrArg},
	{Value{Kind: Text, Text: "a", N: -1}, api.ErrArg},
	{Value{Kind: Text, Text: longest, Bits: 1}, api.ErrArg},
	{Value{Kind: Text, N: math.MaxInt}, api.ErrArg},
	{Value{Kind: Text, Bits: unclean[0]}, api.ErrArg},
}

// strewn are values of all kinds without a rule to the eye, made by the calls of the package.
func strewn(n int) []Value {
	var l []Value
	u := uint64(88172645463325252)
	for range n {
		u ^= u << 13
		u ^= u >> 7
		u ^= u << 17
		text := strings.Repeat(string([]byte{byte(u >> 9), byte(u >> 17)}), int(u>>60))
		l = append(l, OfInt(int(u)), OfInt(int(u)>>(u%64)), OfFlag(u&1 == 1), OfReal(u), OfReal(u|infinite), OfText(text))
	}
	return l
}

// values are those that may be which tests go through one by one, some of them twice.
func values() []Value {
	l := strewn(60)
	for _, x := range rising {
		l = append(l, x.v)
	}
	return l
}

// P4.1

func TestOfInt(t *testing.T) {
	for _, x := range []struct{ n, held int }{
		{0, 0}, {1, 1}, {-1, -1}, {258, 258},
		{api.MaxNum - 1, api.MaxNum - 1}, {api.MaxNum, api.MaxNum}, {api.MaxNum + 1, api.MaxNum}, {math.MaxInt, api.MaxNum},
		{1 - api.MaxNum, 1 - api.MaxNum}, {-api.MaxNum, -api.MaxNum}, {-api.MaxNum - 1, -api.MaxNum}, {math.MinInt, -api.MaxNum},
	} {
		if v := OfInt(x.n); v != (Value{Kind: 1, N: x.held}) {
			t.Errorf("OfInt(%d) = %#v", x.n, v)
		}
	}
}

func TestOfFlag(t *testing.T) {
	if v := OfFlag(true); v != (Value{Kind: 2, N: 1}) {
		t.Errorf("OfFlag(true) = %#v", v)
	}
	if v := OfFlag(false); v != (Value{Kind: 2}) {
		t.Errorf("OfFlag(false) = %#v", v)
	}
}

func TestOfReal(t *testing.T) {
	for _, u := range []uint64{0, minus0, least, least | below, one, one | below, greatest, infinite, infinite | below, clean} {
		if v := OfReal(u); v != (Value{Kind: 3, Bits: u}) {
			t.Errorf("OfReal(%x) = %#v", u, v)
		}
	}
	for _, u := range unclean {
		if v := OfReal(u); v != (Value{Kind: 3, Bits: clean}) {
			t.Errorf("OfReal(%x) = %#v", u, v)
		}
	}
}

func TestOfText(t *testing.T) {
	for _, x := range []struct{ s, first string }{
		{"", ""}, {"a", "a"}, {"a b", "a b"}, {"\x00\xff", "\x00\xff"}, {longest[:23], longest[:23]},
		{longest, longest}, {longest + "x", longest}, {longest + longest, longest},
		{strings.Repeat("abc", 70000), "abcabcabcabcabcabcabcabc"},
		// Cut within a letter of two bytes.
		{strings.Repeat("a", 23) + "\u00e9", strings.Repeat("a", 23) + "\xc3"},
	} {
		if v := OfText(x.s); v != (Value{Kind: 4, Text: x.first}) {
			t.Errorf("OfText(%q) = %#v", x.s, v)
		}
	}
}

func TestWhatIsMadeMayBe(t *testing.T) {
	for _, v := range strewn(400) {
		if e := Check(v); e != api.OK {
			t.Errorf("Check(%#v) = %v", v, e)
		}
	}
}

// P4.2

func TestCheckOfWhatMayBe(t *testing.T) {
	for _, x := range rising {
		if e := Check(x.v); e != api.OK {
			t.Errorf("Check(%#v) = %v", x.v, e)
		}
	}
}

func TestCheckTellsTheFirstError(t *testing.T) {
	for _, x := range wrong {
		if e := Check(x.v); e != x.e {
			t.Errorf("Check(%#v) = %v, not %v", x.v, e, x.e)
		}
	}
}

func TestCheckOfKindsThatAreNone(t *testing.T) {
	for kind := range 256 {
		want := api.ErrKind
		if kind >= 1 && kind <= 4 {
			want = api.OK
		}
		if e := Check(Value{Kind: uint8(kind)}); e != want {
			t.Errorf("of kind %d: %v", kind, e)
		}
	}
}

func TestCheckOfEachFieldThatIsNotNeeded(t *testing.T) {
	for _, x := range rising {
		for _, more := range []Value{{N: 1}, {N: -1}, {Bits: 1}, {Bits: minus0}, {Text: "\x00"}} {
			v, needed := x.v, false
			switch {
			case more.N != 0:
				v.N, needed = more.N, v.Kind == Int || v.Kind == Flag
			case more.Bits != 0:
				v.Bits, needed = more.Bits, v.Kind == Real
			default:
				v.Text, needed = more.Text, v.Kind == Text
			}
			if e := Check(v); !needed && e != api.ErrArg {
				t.Errorf("Check(%#v) = %v", v, e)
			}
		}
	}
}

func TestCheckOfDoublesThatAreNotClean(t *testing.T) {
	for _, u := range unclean {
		if e := Check(Value{Kind: Real, Bits: u}); e != api.ErrForm {
			t.Errorf("of %x: %v", u, e)
		}
	}
}

// P4.3

// checkRank holds two values against each other both ways round.
func checkRank(t *testing.T, a, b Value, want int) {
	t.Helper()
	if Rank(a, b) != want || Rank(b, a) != -want {
		t.Errorf("Rank of %#v and %#v = %d, turned round %d, not %d", a, b, Rank(a, b), Rank(b, a), want)
	}
}

func TestRankOfWhatMayBe(t *testing.T) {
	for i, x := range rising {
		for _, y := range rising[:i] {
			checkRank(t, y.v, x.v, -1)
		}
		checkRank(t, x.v, x.v, 0)
	}
}

func TestRankLooksAtKindsFirst(t *testing.T) {
	for _, a := range values() {
		for _, b := range values() {
			if a.Kind < b.Kind {
				checkRank(t, a, b, -1)
			}
		}
	}
	// Kinds that are none stand in the order, too.
	for kind := range 255 {
		a := Value{Kind: uint8(kind), N: 9, Bits: 9, Text: "9"}
		checkRank(t, a, Value{Kind: uint8(kind) + 1}, -1)
		checkRank(t, a, Value{Kind: 255}, -1)
	}
}

func TestRankOfWhatMayNotBe(t *testing.T) {
	for _, x := range []struct {
		a, b Value
		want int
	}{
		{Value{Kind: Int, N: math.MinInt}, Value{Kind: Int, N: math.MaxInt}, -1},
		{Value{Kind: Int, N: math.MinInt}, Value{Kind: Int, N: -api.MaxNum}, -1},
		{Value{Kind: Int, N: api.MaxNum + 1}, Value{Kind: Int, N: api.MaxNum}, 1},
		{Value{Kind: Flag, N: 2}, Value{Kind: Flag, N: 1}, 1},
		{Value{Kind: Flag, N: -7}, Value{Kind: Flag, N: -6}, -1},
		{Value{Kind: Real, Bits: unclean[0]}, Value{Kind: Real, Bits: clean}, 0},
		{Value{Kind: Real, Bits: unclean[0]}, Value{Kind: Real, Bits: unclean[8]}, 0},
		{Value{Kind: Real, Bits: unclean[8]}, Value{Kind: Real, Bits: infinite}, 1},
		{Value{Kind: Text, Text: longest + "a"}, Value{Kind: Text, Text: longest}, 1},
		{Value{Kind: Text, Text: longest + "a"}, Value{Kind: Text, Text: longest + "b"}, -1},
		{Value{Kind: Text, Text: longest + longest}, Value{Kind: Text, Text: longest + longest}, 0},
		{Value{}, Value{}, 0},
		{Value{N: 1, Bits: 2, Text: "a"}, Value{N: 2, Bits: 1, Text: "b"}, 0},
		{Value{Kind: 5, N: 1, Bits: 2, Text: "a"}, Value{Kind: 5}, 0},
		{Value{Kind: 255, N: math.MinInt}, Value{Kind: 255, N: math.MaxInt}, 0},
	} {
		checkRank(t, x.a, x.b, x.want)
	}
}

func TestRankCountsNoFieldThatTheKindDoesNotNeed(t *testing.T) {
	for _, x := range rising {
		for _, n := range []int{math.MinInt, 0, math.MaxInt} {
			v := x.v
			switch v.Kind {
			case Int, Flag:
				v.Bits, v.Text = uint64(n), longest[:n&1]
			case Real:
				v.N, v.Text = n, longest[:n&1]
			case Text:
				v.N, v.Bits = n, uint64(n)
			}
			checkRank(t, v, x.v, 0)
			checkRank(t, v, Value{Kind: x.v.Kind - 1, N: n}, 1)
		}
	}
	checkRank(t, Value{Kind: Int, N: 1, Bits: 9, Text: "b"}, Value{Kind: Int, N: 2, Bits: 8, Text: "a"}, -1)
	checkRank(t, Value{Kind: Flag, N: 0, Bits: 9, Text: "b"}, Value{Kind: Flag, N: 1, Bits: 8, Text: "a"}, -1)
	checkRank(t, Value{Kind: Real, N: 9, Bits: 1, Text: "b"}, Value{Kind: Real, N: 8, Bits: 2, Text: "a"}, -1)
	checkRank(t, Value{Kind: Text, N: 9, Bits: 9, Text: "a"}, Value{Kind: Text, N: 8, Bits: 8, Text: "b"}, -1)
}

// P4.4

func TestPutLaysAValuesBytes(t *testing.T) {
	for _, x := range rising {
		for _, ahead := range []string{"", "\x00", "ab\xff"} {
			if b, e := Put([]byte(ahead), x.v); string(b) != ahead+x.s || e != api.OK {
				t.Errorf("Put(%q, %#v) = %q, %v", ahead, x.v, b, e)
			}
		}
		if b, e := Put(nil, x.v); string(b) != x.s || e != api.OK {
			t.Errorf("Put(nil, %#v) = %q, %v", x.v, b, e)
		}
	}
}

func TestPutOfWhatMayNotBe(t *testing.T) {
	for _, x := range wrong {
		for _, ahead := range []string{"", "ab"} {
			if b, e := Put([]byte(ahead), x.v); len(b) != 0 || e != x.e {
				t.Errorf("Put(%q, %#v) = %q, %v, not %v", ahead, x.v, b, e, x.e)
			}
		}
	}
}

func TestWhatIsPutIsNewMemory(t *testing.T) {
	const spare = "\xee\xee\xee\xee\xee\xee\xee\xee\xee\xee\xee\xee\xee\xee\xee\xee\xee\xee\xee\xee\xee\xee\xee\xee\xee\xee\xee\xee\xee\xee"
	for _, x := range rising {
		for _, ahead := range []string{"", "abc"} {
			all := []byte(ahead + spare)
			b := all[:len(ahead)]
			first, _ := Put(b, x.v)
			second, _ := Put(b, x.v)
			clear(first[:cap(first)])
			if string(all) != ahead+spare {
				t.Errorf("Put(%q, %#v): the argument was changed: %q", ahead, x.v, all)
			}
			clear(all)
			if string(second) != ahead+x.s {
				t.Errorf("Put(%q, %#v): the answer shares memory: %q", ahead, x.v, second)
			}
		}
	}
}

func TestTakeReadsAValueAndThePlaceBehind(t *testing.T) {
	for _, x := range rising {
		for _, ahead := range []string{"", "\x00", "\x04\x18"} {
			for _, behind := range []string{"", "\x00", "\x01", "\xff\xff"} {
				s := ahead + x.s + behind
				v, next, e := Take(s, len(ahead))
				if v != x.v || next != len(ahead)+len(x.s) || e != api.OK {
					t.Errorf("Take(%q, %d) = %#v, %d, %v", s, len(ahead), v, next, e)
				}
			}
		}
	}
}

// checkRefused takes a value where none stands.
func checkRefused(t *testing.T, s string, at int, want api.Errno) {
	t.Helper()
	if v, next, e := Take(s, at); v != (Value{}) || next != 0 || e != want {
		t.Errorf("Take(%q, %d) = %#v, %d, %v, not %v", s, at, v, next, e, want)
	}
}

func TestTakeFromPlacesOutside(t *testing.T) {
	for _, s := range []string{"", "\x02\x01", "\x09"} {
		for _, at := range []int{-1, math.MinInt, len(s) + 1, math.MaxInt} {
			checkRefused(t, s, at, api.ErrArg)
		}
		checkRefused(t, s, len(s), api.ErrCut)
	}
}

func TestTakeOfWhatIsCut(t *testing.T) {
	for _, x := range rising {
		for n := range len(x.s) {
			checkRefused(t, x.s[:n], 0, api.ErrCut)
			checkRefused(t, "\xff"+x.s[:n], 1, api.ErrCut)
		}
	}
}

func TestTakeOfKindsThatAreNone(t *testing.T) {
	for kind := range 256 {
		if kind >= 1 && kind <= 4 {
			continue
		}
		for _, behind := range []string{"", "\x00", "\x01", strings.Repeat("\xff", 12)} {
			checkRefused(t, string([]byte{byte(kind)})+behind, 0, api.ErrKind)
		}
	}
}

func TestTakeErrors(t *testing.T) {
	nine := strings.Repeat("\x80", 9)
	for _, x := range []struct {
		s string
		e api.Errno
	}{
		// Of numbers: zig's, and then Check's.
		{"\x01\x80\x00", api.ErrForm}, {"\x01\xac\x82\x00", api.ErrForm}, {"\x01" + nine + "\x00", api.ErrForm},
		{"\x01" + nine + "\x02", api.ErrRange}, {"\x01" + nine + "\x80", api.ErrRange}, {"\x01" + nine, api.ErrCut}, {"\x01\xff", api.ErrCut},
		{"\x01\x81\x80\x80\x80\x80\x80\x80\x80\x80\x01", api.ErrRange}, // -MaxNum - 1
		{"\x01\x82\x80\x80\x80\x80\x80\x80\x80\x80\x01", api.ErrRange}, // MaxNum + 1
		{"\x01\xff\xff\xff\xff\xff\xff\xff\xff\xff\x01", api.ErrRange}, {"\x01\xfe\xff\xff\xff\xff\xff\xff\xff\xff\x01", api.ErrRange},
		// Of flags.
		{"\x02\x02", api.ErrRange}, {"\x02\x80", api.ErrRange}, {"\x02\xff", api.ErrRange}, {"\x02\x81\x00", api.ErrRange},
		// Of doubles.
		{"\x03\xff\xf8\x00\x00\x00\x00\x00\x00", api.ErrForm}, {"\x03\x7f\xf0\x00\x00\x00\x00\x00\x01", api.ErrForm}, {"\x03\xff\xff\xff\xff\xff\xff\xff\xff", api.ErrForm},
		{"\x03\xff\xff\xff\xff\xff\xff\xff", api.ErrCut},
		// Of texts: zig's, then one that is too long, wherever its bytes end, then one that is cut.
		{"\x04\x80\x00", api.ErrForm}, {"\x04\x82\x00ab", api.ErrForm}, {"\x04\x98\x00", api.ErrForm}, {"\x04" + nine + "\x02", api.ErrRange}, {"\x04\x80", api.ErrCut},
		{"\x04\x19", api.ErrLong}, {"\x04\x19" + longest + "x", api.ErrLong}, {"\x04\x7f", api.ErrLong}, {"\x04\x80\x01", api.ErrLong}, {"\x04\xff\xff\x03", api.ErrLong},
		{"\x04\xff\xff\xff\xff\xff\xff\xff\xff\xff\x01", api.ErrLong}, {"\x04" + nine + "\x01", api.ErrLong}, {"\x04\xff\xff\xff\xff\xff\xff\xff\xff\x7f", api.ErrLong},
		{"\x04\x18" + longest[1:], api.ErrCut}, {"\x04\x01", api.ErrCut}, {"\x04\x02a", api.ErrCut},
	} {
		checkRefused(t, x.s, 0, x.e)
		checkRefused(t, "\x04\x00"+x.s, 2, x.e)
		if x.e != api.ErrCut {
			checkRefused(t, x.s+longest, 0, x.e)
		}
	}
}

func TestTextsAreInMemoryOfTheirOwn(t *testing.T) {
	s := "\x04\x18" + longest + longest
	made := OfText(s).Text
	taken, _, _ := Take(s, 0)
	for i := range len(s) {
		p := unsafe.StringData(s[i:])
		if p == unsafe.StringData(made) || p == unsafe.StringData(taken.Text) {
			t.Errorf("a text stands at byte %d of what it was cut from", i)
		}
	}
}

// P4.5

func TestWord(t *testing.T) {
	words := map[int]string{1: "int", 2: "flag", 3: "real", 4: "text"}
	for kind := range 256 {
		if w := Word(uint8(kind)); w != words[kind] {
			t.Errorf("Word(%d) = %q", kind, w)
		}
	}
}

func TestKindsHaveTheirNumbers(t *testing.T) {
	if Int != 1 || Flag != 2 || Real != 3 || Text != 4 {
		t.Error(Int, Flag, Real, Text)
	}
}

// P4.6

func TestWhatIsPutIsTaken(t *testing.T) {
	var b []byte
	var ends []int
	for _, v := range values() {
		b, _ = Put(b, v)
		ends = append(ends, len(b))
	}
	at := 0
	for i, v := range values() {
		got, next, e := Take(string(b), at)
		if got != v || next != ends[i] || e != api.OK {
			t.Fatalf("Take at %d = %#v, %d, %v, not %#v", at, got, next, e, v)
		}
		at = next
	}
}

func TestWhatIsTakenHasJustTheBytesThatItWasTakenOf(t *testing.T) {
	thirds := []byte{0, 1, 2, 0x18, 0x7f, 0x80, 0xff}
	for kind := range 6 {
		for second := range 256 {
			for _, third := range thirds {
				for _, behind := range []string{"", "\x00", "\x01", longest, "\xf8" + longest} {
					s := string([]byte{byte(kind), byte(second), third}) + behind
					v, next, e := Take(s, 0)
					if e != api.OK {
						continue
					}
					if b, e := Put(nil, v); string(b) != s[:next] || e != api.OK {
						t.Fatalf("Take(%q, 0) = %#v, %d; Put tells %q, %v", s, v, next, b, e)
					}
				}
			}
		}
	}
}

func TestSameBytesSameValueAndRankZeroAreOne(t *testing.T) {
	l := values()
	var bytes []string
	for _, v := range l {
		b, _ := Put(nil, v)
		bytes = append(bytes, string(b))
	}
	for i, a := range l {
		for j, b := range l {
			if same := a == b; same != (bytes[i] == bytes[j]) || same != (Rank(a, b) == 0) {
				t.Fatalf("%#v and %#v: the same %t, bytes %q and %q, rank %d", a, b, same, bytes[i], bytes[j], Rank(a, b))
			}
		}
	}
}

func TestRankIsAnOrder(t *testing.T) {
	l := append(strewn(10), values()[300:]...)
	for _, a := range l {
		for _, b := range l {
			if Rank(a, b) != -Rank(b, a) {
				t.Fatalf("%#v and %#v: %d, turned round %d", a, b, Rank(a, b), Rank(b, a))
			}
			for _, c := range l {
				if Rank(a, b) <= 0 && Rank(b, c) <= 0 && Rank(a, c) != min(Rank(a, b), Rank(b, c)) {
					t.Fatalf("%#v, %#v, %#v: %d, %d, %d", a, b, c, Rank(a, b), Rank(b, c), Rank(a, c))
				}
			}
		}
	}
}
