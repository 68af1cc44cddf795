package zig

import (
	"math"
	"strings"
	"testing"

	"telltale/api"
)

// told are numbers and the bytes that the document's words say they have.
var told = []struct {
	u    uint64
	text string
}{
	{0, "\x00"},
	{1, "\x01"},
	{2, "\x02"},
	{127, "\x7f"},
	{128, "\x80\x01"},
	{129, "\x81\x01"},
	{255, "\xff\x01"},
	{256, "\x80\x02"},
	{300, "\xac\x02"},
	{1<<14 - 1, "\xff\x7f"},
	{1 << 14, "\x80\x80\x01"},
	{1<<14 + 5, "\x85\x80\x01"},
	{1<<21 - 1, "\xff\xff\x7f"},
	{1 << 21, "\x80\x80\x80\x01"},
	{0x0123456789abcdef, "\xef\x9b\xaf\xcd\xf8\xac\xd1\x91\x01"},
	{1<<56 - 1, "\xff\xff\xff\xff\xff\xff\xff\x7f"},
	{1 << 56, "\x80\x80\x80\x80\x80\x80\x80\x80\x01"},
	{math.MaxInt64, "\xff\xff\xff\xff\xff\xff\xff\xff\x7f"},
	{1 << 63, "\x80\x80\x80\x80\x80\x80\x80\x80\x80\x01"},
	{1<<63 + 1, "\x81\x80\x80\x80\x80\x80\x80\x80\x80\x01"},
	{math.MaxUint64, "\xff\xff\xff\xff\xff\xff\xff\xff\xff\x01"},
}

// numbers are those about each power of two, and some without a rule to the eye.
func numbers() []uint64 {
	l := []uint64{0, math.MaxUint64}
	for i := range 64 {
		p := uint64(1) << i
		l = append(l, p-1, p, p+1, ^p, 0x9e3779b97f4a7c15*uint64(i+1))
	}
	return l
}

// room tells the list of s with spare room behind it, whose bytes are all 0xee.
func room(s string) []byte {
	b := []byte(s + strings.Repeat("\xee", 20))
	return b[:len(s):len(b)]
}

// untouched tells whether neither b's bytes nor its spare room were written.
func untouched(b []byte, s string) bool {
	return string(b[:cap(b)]) == s+strings.Repeat("\xee", cap(b)-len(b))
}

// P2.1

func TestPutLaysLowestSevenFirst(t *testing.T) {
	for _, x := range told {
		for _, ahead := range []string{"", "\x00", "\xff", "ab\x80"} {
			if b := Put([]byte(ahead), x.u); string(b) != ahead+x.text {
				t.Errorf("Put(%q, %d) = %q", ahead, x.u, b)
			}
		}
		if b := Put(nil, x.u); string(b) != x.text {
			t.Errorf("Put(nil, %d) = %q", x.u, b)
		}
	}
}

func TestPutSetsTheHighestBitOfAllBytesButTheLast(t *testing.T) {
	for _, u := range numbers() {
		b := Put(nil, u)
		var sum uint64
		for i, c := range b {
			if (c >= 0x80) != (i < len(b)-1) {
				t.Errorf("Put(nil, %d) = %q: byte %d", u, b, i)
			}
			sum |= uint64(c%0x80) << (7 * i)
		}
		if sum != u {
			t.Errorf("Put(nil, %d) = %q: its sevens come to %d", u, b, sum)
		}
	}
}

func TestSizeAtTheEdges(t *testing.T) {
	for size := 1; size <= 9; size++ {
		edge := uint64(1) << (7 * size)
		if Size(edge-1) != size || Size(edge) != size+1 || Size(edge+1) != size+1 {
			t.Error(size, Size(edge-1), Size(edge), Size(edge+1))
		}
	}
	if Size(0) != 1 || Size(1) != 1 || Size(1<<63-1) != 9 || Size(math.MaxUint64) != 10 {
		t.Error(Size(0), Size(1), Size(1<<63-1), Size(math.MaxUint64))
	}
}

func TestSizeIsHowManyBytesPutLays(t *testing.T) {
	for _, u := range numbers() {
		if n := len(Put([]byte("xyz"), u)) - 3; n != Size(u) {
			t.Errorf("%d has %d bytes, Size tells %d", u, n, Size(u))
		}
	}
}

func TestWhatIsLaidIsNewMemory(t *testing.T) {
	for name, lay := range map[string]func([]byte) []byte{
		"Put":    func(b []byte) []byte { return Put(b, 1<<63) },
		"PutInt": func(b []byte) []byte { return PutInt(b, -3) },
	} {
		for _, ahead := range []string{"", "abc"} {
			b := room(ahead)
			first := lay(b)
			want := string(first)
			if !untouched(b, ahead) {
				t.Errorf("%s: its argument was changed: %q", name, b[:cap(b)])
			}
			second := lay(b)
			clear(first[:cap(first)])
			if !untouched(b, ahead) || string(second) != want {
				t.Errorf("%s: its answer shares memory", name)
			}
			clear(b[:cap(b)])
			if string(second) != want {
				t.Errorf("%s: its answer shares its argument's memory", name)
			}
		}
	}
}

// P2.2

func TestTakeReadsANumberAndThePlaceBehind(t *testing.T) {
	for _, x := range told {
		for _, ahead := range []string{"", "\x00", "\xff\xff"} {
			for _, behind := range []string{"", "\x00", "\x01", "\x80", "\xff", strings.Repeat("\xff", 20)} {
				u, next, e := Take(ahead+x.text+behind, len(ahead))
				if u != x.u || next != len(ahead)+len(x.text) || e != api.OK {
					t.Errorf("Take(%q, %d) = %d, %d, %v", ahead+x.text+behind, len(ahead), u, next, e)
				}
			}
		}
	}
}

func TestTakeReadsFromTheMiddleOfANumber(t *testing.T) {
	s := "\xac\x82\x03"
	for at, want := range []uint64{0xc12c, 0x182, 3} {
		if u, next, e := Take(s, at); u != want || next != 3 || e != api.OK {
			t.Errorf("Take(%q, %d) = %d, %d, %v", s, at, u, next, e)
		}
	}
}

var nine = strings.Repeat("\x80", 9)

// wrong are texts in which no number stands at that place, with the error.
var wrong = []struct {
	s  string
	at int
	e  api.Errno
}{
	{"", -1, api.ErrArg}, {"", 1, api.ErrArg}, {"", math.MinInt, api.ErrArg}, {"", math.MaxInt, api.ErrArg},
	{"\x01\x02", -1, api.ErrArg}, {"\x01\x02", 3, api.ErrArg}, {"\x01\x02", math.MinInt, api.ErrArg}, {"\x01\x02", math.MaxInt, api.ErrArg},

	{"", 0, api.ErrCut}, {"\x01\x02", 2, api.ErrCut}, {"\x80", 0, api.ErrCut}, {"\x80", 1, api.ErrCut}, {"\xff", 0, api.ErrCut},
	{"\x01\x80", 1, api.ErrCut}, {"\x80\x80", 0, api.ErrCut}, {nine, 0, api.ErrCut}, {strings.Repeat("\xff", 9), 0, api.ErrCut},
	{"\x00" + nine, 1, api.ErrCut},

	{nine + "\x02", 0, api.ErrRange}, {nine + "\x03", 0, api.ErrRange}, {nine + "\x7f", 0, api.ErrRange},
	// A tenth byte that tells of more is above 1, whatever its other bits are.
	{nine + "\x80", 0, api.ErrRange}, {nine + "\x81", 0, api.ErrRange}, {nine + "\xff", 0, api.ErrRange},
	{nine + "\x80\x00", 0, api.ErrRange}, {nine + "\x80\x01", 0, api.ErrRange}, {nine + "\x81\x00", 0, api.ErrRange},
	{"ab" + nine + "\x02\x00", 2, api.ErrRange}, {strings.Repeat("\xff", 30), 0, api.ErrRange},

	{"\x80\x00", 0, api.ErrForm}, {"\xff\x00", 0, api.ErrForm}, {"\x81\x80\x00", 0, api.ErrForm}, {"\x80\x80\x80\x00\x01", 0, api.ErrForm},
	{nine[:8] + "\x00", 0, api.ErrForm}, {nine + "\x00", 0, api.ErrForm}, {nine + "\x00\x02", 0, api.ErrForm},
	{"\x00\x80\x00", 1, api.ErrForm}, {"\x80\x00" + nine + "\x02", 0, api.ErrForm},
}

func TestTakeErrors(t *testing.T) {
	for _, x := range wrong {
		if u, next, e := Take(x.s, x.at); u != 0 || next != 0 || e != x.e {
			t.Errorf("Take(%q, %d) = %d, %d, %v, not %v", x.s, x.at, u, next, e, x.e)
		}
	}
}

func TestTakeOfANumberThatIsCut(t *testing.T) {
	for _, x := range told {
		for n := range len(x.text) {
			if u, next, e := Take(x.text[:n], 0); u != 0 || next != 0 || e != api.ErrCut {
				t.Errorf("Take(%q, 0) = %d, %d, %v", x.text[:n], u, next, e)
			}
		}
	}
}

// P2.3

// folded are whole numbers and what they are folded to.
var folded = []struct {
	n    int
	u    uint64
	text string
}{
	{0, 0, "\x00"}, {-1, 1, "\x01"}, {1, 2, "\x02"}, {-2, 3, "\x03"}, {2, 4, "\x04"}, {-3, 5, "\x05"}, {3, 6, "\x06"},
	{63, 126, "\x7e"}, {-64, 127, "\x7f"}, {64, 128, "\x80\x01"}, {-65, 129, "\x81\x01"}, {150, 300, "\xac\x02"},
	{1 << 32, 1 << 33, "\x80\x80\x80\x80\x20"},
	{api.MaxNum, 1 << 63, nine + "\x01"},
	{-api.MaxNum, 1<<63 - 1, strings.Repeat("\xff", 8) + "\x7f"},
	{math.MaxInt, math.MaxUint64 - 1, "\xfe" + strings.Repeat("\xff", 8) + "\x01"},
	{math.MinInt + 1, math.MaxUint64 - 2, "\xfd" + strings.Repeat("\xff", 8) + "\x01"},
	{math.MinInt, math.MaxUint64, strings.Repeat("\xff", 9) + "\x01"},
}

func TestFoldAndBack(t *testing.T) {
	for _, x := range folded {
		if u := Fold(x.n); u != x.u {
			t.Errorf("Fold(%d) = %d", x.n, u)
		}
		if n := Back(x.u); n != x.n {
			t.Errorf("Back(%d) = %d", x.u, n)
		}
	}
}

func TestFoldGoesThroughWholeNumbersInTurns(t *testing.T) {
	for n := range 5000 {
		if Fold(n) != uint64(2*n) || Fold(-n-1) != uint64(2*n+1) || Back(uint64(2*n)) != n || Back(uint64(2*n+1)) != -n-1 {
			t.Fatal(n, Fold(n), Fold(-n-1), Back(uint64(2*n)), Back(uint64(2*n+1)))
		}
	}
}

func TestFoldIsTheWayBack(t *testing.T) {
	for _, u := range numbers() {
		if Fold(Back(u)) != u || Back(Fold(int(u))) != int(u) {
			t.Error(u, Fold(Back(u)), Back(Fold(int(u))))
		}
	}
}

func TestPutIntAndTakeInt(t *testing.T) {
	for _, x := range folded {
		for _, ahead := range []string{"", "\x80", "ab"} {
			b := PutInt([]byte(ahead), x.n)
			if string(b) != ahead+x.text {
				t.Errorf("PutInt(%q, %d) = %q", ahead, x.n, b)
			}
			for _, behind := range []string{"", "\x00", "\xff"} {
				n, next, e := TakeInt(ahead+x.text+behind, len(ahead))
				if n != x.n || next != len(ahead)+len(x.text) || e != api.OK {
					t.Errorf("TakeInt(%q, %d) = %d, %d, %v", ahead+x.text+behind, len(ahead), n, next, e)
				}
			}
		}
	}
}

func TestTakeIntErrors(t *testing.T) {
	for _, x := range wrong {
		if n, next, e := TakeInt(x.s, x.at); n != 0 || next != 0 || e != x.e {
			t.Errorf("TakeInt(%q, %d) = %d, %d, %v, not %v", x.s, x.at, n, next, e, x.e)
		}
	}
}

// P2.4

func TestWhatIsPutIsTaken(t *testing.T) {
	for _, u := range numbers() {
		s := string(Put([]byte("\x81"), u))
		for _, behind := range []string{"", "\x00", "\x7f", "\x80", "\xff\xff"} {
			if got, next, e := Take(s+behind, 1); got != u || next != len(s) || e != api.OK {
				t.Errorf("Take(%q, 1) = %d, %d, %v", s+behind, got, next, e)
			}
			n, next, e := TakeInt(string(PutInt(nil, int(u)))+behind, 0)
			if n != int(u) || next != Size(Fold(int(u))) || e != api.OK {
				t.Errorf("TakeInt of %d: %d, %d, %v", int(u), n, next, e)
			}
		}
	}
}

// Of all texts of up to three bytes just those are numbers that Put lays.
func TestEachNumberHasJustOneText(t *testing.T) {
	seen := map[uint64]bool{}
	for size := 1; size <= 3; size++ {
		for i := range 1 << (8 * size) {
			s := string([]byte{byte(i), byte(i >> 8), byte(i >> 16)}[:size])
			u, next, e := Take(s, 0)
			if e != api.OK || next < size {
				continue
			}
			if seen[u] || string(Put(nil, u)) != s {
				t.Fatalf("%d is read of %q, and has %q", u, s, Put(nil, u))
			}
			seen[u] = true
		}
	}
	if len(seen) != 1<<21 {
		t.Error(len(seen), "numbers")
	}
}

func TestNumbersInARow(t *testing.T) {
	var b []byte
	for _, u := range numbers() {
		b = PutInt(Put(b, u), int(u))
	}
	s, at := string(b), 0
	for _, want := range numbers() {
		u, behind, e := Take(s, at)
		n, next, err := TakeInt(s, behind)
		if u != want || n != int(want) || e != api.OK || err != api.OK {
			t.Fatal(want, u, n, at, e, err)
		}
		at = next
	}
	if u, next, e := Take(s, at); at != len(s) || u != 0 || next != 0 || e != api.ErrCut {
		t.Error(at, len(s), u, next, e)
	}
}
