package octet

import (
	"math"
	"strings"
	"testing"

	"telltale/api"
)

// The edges of each width, and some numbers between them.
func numbers(width int) []int {
	top := 1<<(8*width) - 1
	return []int{0, 1, 2, 127, 128, 254, 255, top / 257, top / 3, top/2 + 1, top - 1, top}
}

// room tells the list of s with spare room behind it, whose bytes are all 0xee.
func room(s string) []byte {
	b := []byte(s + strings.Repeat("\xee", 20))
	return b[:len(s):len(b)]
}

// untouched tells whether neither b's bytes nor its spare room were written.
func untouched(b []byte, s string) bool {
	return string(b) == s && string(b[:cap(b)]) == s+strings.Repeat("\xee", cap(b)-len(b))
}

// P1.1

func TestNumLaysHighestByteFirst(t *testing.T) {
	for _, x := range []struct {
		b        string
		width, n int
		want     string
	}{
		{"", 2, 258, "\x01\x02"},
		{"", 1, 0, "\x00"},
		{"", 1, 255, "\xff"},
		{"", 6, 0, "\x00\x00\x00\x00\x00\x00"},
		{"", 6, 1, "\x00\x00\x00\x00\x00\x01"},
		{"", 6, 0x010203040506, "\x01\x02\x03\x04\x05\x06"},
		{"", 6, 1<<48 - 1, "\xff\xff\xff\xff\xff\xff"},
		{"", 5, 1<<40 - 2, "\xff\xff\xff\xff\xfe"},
		{"", 4, 1 << 31, "\x80\x00\x00\x00"},
		{"", 3, 65536, "\x01\x00\x00"},
		{"ab\x00", 2, 65535, "ab\x00\xff\xff"},
		{"\xff", 3, 7, "\xff\x00\x00\x07"},
	} {
		b, e := Num([]byte(x.b), x.width, x.n)
		if e != api.OK || string(b) != x.want {
			t.Errorf("Num(%q, %d, %d) = %q, %v", x.b, x.width, x.n, b, e)
		}
	}
}

func TestNumErrors(t *testing.T) {
	for _, x := range []struct {
		width, n int
		want     api.Errno
	}{
		{0, 0, api.ErrArg}, {7, 0, api.ErrArg}, {8, 1, api.ErrArg}, {-1, 0, api.ErrArg},
		{math.MinInt, 0, api.ErrArg}, {math.MaxInt, 0, api.ErrArg},
		// The width's error is named first.
		{0, -1, api.ErrArg}, {7, -1, api.ErrArg}, {7, math.MaxInt, api.ErrArg}, {0, math.MinInt, api.ErrArg},
		{6, -1, api.ErrRange}, {6, math.MaxInt, api.ErrRange}, {6, math.MinInt, api.ErrRange}, {1, -255, api.ErrRange},
	} {
		for _, b := range [][]byte{nil, {}, {1, 2, 3}} {
			if l, e := Num(b, x.width, x.n); e != x.want || len(l) != 0 {
				t.Errorf("Num(%v, %d, %d) = %v, %v", b, x.width, x.n, l, e)
			}
		}
	}
}

func TestNumRangeOfEachWidth(t *testing.T) {
	for width := 1; width <= 6; width++ {
		top := 1<<(8*width) - 1
		if b, e := Num(nil, width, top); e != api.OK || string(b) != strings.Repeat("\xff", width) {
			t.Error(width, b, e)
		}
		if b, e := Num([]byte("x"), width, top+1); e != api.ErrRange || len(b) != 0 {
			t.Error(width, b, e)
		}
		if b, e := Num([]byte("x"), width, -1); e != api.ErrRange || len(b) != 0 {
			t.Error(width, b, e)
		}
	}
}

func TestWordLaysEightBytes(t *testing.T) {
	for _, x := range []struct {
		b    string
		u    uint64
		want string
	}{
		{"", 0, "\x00\x00\x00\x00\x00\x00\x00\x00"},
		{"", 1, "\x00\x00\x00\x00\x00\x00\x00\x01"},
		{"", 0x0102030405060708, "\x01\x02\x03\x04\x05\x06\x07\x08"},
		{"", 1 << 63, "\x80\x00\x00\x00\x00\x00\x00\x00"},
		{"", math.MaxUint64, "\xff\xff\xff\xff\xff\xff\xff\xff"},
		{"a\x00", 0xfe00000000000003, "a\x00\xfe\x00\x00\x00\x00\x00\x00\x03"},
	} {
		if b := Word([]byte(x.b), x.u); string(b) != x.want {
			t.Errorf("Word(%q, %x) = %q", x.b, x.u, b)
		}
	}
	if b := Word(nil, 9); string(b) != "\x00\x00\x00\x00\x00\x00\x00\x09" {
		t.Error(b)
	}
}

func TestTextLaysItsLengthAndItself(t *testing.T) {
	for _, x := range []struct{ b, s, want string }{
		{"", "hi", "\x00\x02hi"},
		{"", "", "\x00\x00"},
		{"ab", "", "ab\x00\x00"},
		{"\x07", "\x00\xff\x80", "\x07\x00\x03\x00\xff\x80"},
		{"", "\u00e9", "\x00\x02\xc3\xa9"},
		{"", strings.Repeat("q", 255), "\x00\xff" + strings.Repeat("q", 255)},
		{"", strings.Repeat("q", 256), "\x01\x00" + strings.Repeat("q", 256)},
		{"z", strings.Repeat("q", 65535), "z\xff\xff" + strings.Repeat("q", 65535)},
	} {
		if b, e := Text([]byte(x.b), x.s); e != api.OK || string(b) != x.want {
			t.Errorf("Text(%q, of %d bytes): of %d bytes, %v", x.b, len(x.s), len(b), e)
		}
	}
}

func TestTextTooLong(t *testing.T) {
	for _, n := range []int{65536, 65537, 1 << 17} {
		for _, b := range [][]byte{nil, {1}} {
			if l, e := Text(b, strings.Repeat("a", n)); e != api.ErrLong || len(l) != 0 {
				t.Error(n, len(l), e)
			}
		}
	}
}

func TestWhatIsLaidIsNewMemory(t *testing.T) {
	for name, lay := range map[string]func([]byte) []byte{
		"Num":  func(b []byte) []byte { l, _ := Num(b, 3, 0x010203); return l },
		"Word": func(b []byte) []byte { return Word(b, 0x0102030405060708) },
		"Text": func(b []byte) []byte { l, _ := Text(b, "hi"); return l },
		"none": func(b []byte) []byte { l, _ := Text(b, ""); return l },
	} {
		b := room("abc")
		first := lay(b)
		told := string(first)
		if !untouched(b, "abc") {
			t.Errorf("%s: its argument was changed: %q", name, b[:cap(b)])
		}
		second := lay(b)
		clear(first[:cap(first)])
		if !untouched(b, "abc") || string(second) != told {
			t.Errorf("%s: its answer shares memory", name)
		}
		clear(b[:cap(b)])
		if string(second) != told {
			t.Errorf("%s: its answer shares its argument's memory", name)
		}
	}
}

// P1.2

func TestOpen(t *testing.T) {
	for _, s := range []string{"", "a", "\x00\xff", strings.Repeat("x", 70000)} {
		r := Open(s)
		if r != (Reader{Text: s}) || r.Left() != len(s) {
			t.Errorf("Open(%q) = %v", s, r)
		}
	}
}

func TestLeft(t *testing.T) {
	for _, x := range []struct {
		s        string
		at, want int
	}{
		{"abc", 0, 3}, {"abc", 1, 2}, {"abc", 2, 1}, {"abc", 3, 0},
		{"abc", 4, 0}, {"abc", -1, 0}, {"abc", math.MinInt, 0}, {"abc", math.MaxInt, 0},
		{"", 0, 0}, {"", 1, 0}, {"", -1, 0},
	} {
		for _, e := range []api.Errno{api.OK, api.ErrCut} {
			if n := (Reader{x.s, x.at, e}).Left(); n != x.want {
				t.Errorf("%q at %d (%v): %d left", x.s, x.at, e, n)
			}
		}
	}
}

func TestReadNum(t *testing.T) {
	s := "\x01\x02\x03\x04\x05\xff\xfe"
	for _, x := range []struct{ at, width, want int }{
		{0, 1, 1}, {0, 2, 258}, {0, 3, 0x010203}, {0, 4, 0x01020304}, {0, 5, 0x0102030405}, {0, 6, 0x0102030405ff},
		{1, 6, 0x02030405fffe}, {5, 2, 0xfffe}, {6, 1, 0xfe},
	} {
		r, n := Reader{Text: s, At: x.at}.Num(x.width)
		if n != x.want || r != (Reader{Text: s, At: x.at + x.width}) {
			t.Errorf("at %d, width %d: %x, %v", x.at, x.width, n, r)
		}
	}
	if r, n := Open("\xff\xff\xff\xff\xff\xff").Num(6); n != 1<<48-1 || r.Left() != 0 {
		t.Error(n, r)
	}
}

func TestReadNumErrors(t *testing.T) {
	for _, x := range []struct {
		s         string
		at, width int
		want      api.Errno
	}{
		{"abcdefgh", 0, 0, api.ErrArg}, {"abcdefgh", 0, 7, api.ErrArg}, {"abcdefgh", 3, -1, api.ErrArg},
		{"abcdefgh", 0, math.MaxInt, api.ErrArg}, {"abcdefgh", 0, math.MinInt, api.ErrArg},
		// The width's error is named first.
		{"", 0, 7, api.ErrArg}, {"", 0, 0, api.ErrArg}, {"ab", 9, 0, api.ErrArg}, {"ab", -9, 8, api.ErrArg},
		{"", 0, 1, api.ErrCut}, {"ab", 2, 1, api.ErrCut}, {"ab", 0, 3, api.ErrCut}, {"ab", 1, 2, api.ErrCut}, {"abcde", 0, 6, api.ErrCut},
		{"abc", 4, 1, api.ErrCut}, {"abc", -1, 1, api.ErrCut}, {"abc", math.MinInt, 6, api.ErrCut}, {"abc", math.MaxInt, 6, api.ErrCut},
	} {
		r, n := Reader{Text: x.s, At: x.at}.Num(x.width)
		if n != 0 || r != (Reader{x.s, x.at, x.want}) {
			t.Errorf("%q at %d, width %d: %d, %v", x.s, x.at, x.width, n, r)
		}
	}
}

func TestReadWord(t *testing.T) {
	s := "\x01\x02\x03\x04\x05\x06\x07\x08\xff\xff\xff\xff\xff\xff\xff\xff"
	for _, x := range []struct {
		at   int
		want uint64
	}{{0, 0x0102030405060708}, {1, 0x02030405060708ff}, {8, math.MaxUint64}} {
		r, u := Reader{Text: s, At: x.at}.Word()
		if u != x.want || r != (Reader{Text: s, At: x.at + 8}) {
			t.Errorf("at %d: %x, %v", x.at, u, r)
		}
	}
}

func TestReadWordErrors(t *testing.T) {
	for _, x := range []struct {
		s  string
		at int
	}{{"", 0}, {"1234567", 0}, {"12345678", 1}, {"12345678", 8}, {"12345678", 9}, {"12345678", -1}, {"12345678", math.MinInt}, {"12345678", math.MaxInt}} {
		r, u := Reader{Text: x.s, At: x.at}.Word()
		if u != 0 || r != (Reader{x.s, x.at, api.ErrCut}) {
			t.Errorf("%q at %d: %x, %v", x.s, x.at, u, r)
		}
	}
}

func TestReadStr(t *testing.T) {
	long := strings.Repeat("q", 65535)
	for _, x := range []struct {
		s, want string
		at      int
		left    int
	}{
		{"\x00\x02hi", "hi", 0, 0},
		{"\x00\x02hi!", "hi", 0, 1},
		{"\x00\x00", "", 0, 0},
		{"\x00\x00\x00\x01", "", 0, 2},
		{"x\x00\x03\x00\xff\x80y", "\x00\xff\x80", 1, 1},
		{"\x01\x00" + long, long[:256], 0, 65535 - 256},
		{"\xff\xff" + long, long, 0, 0},
	} {
		r, s := Reader{Text: x.s, At: x.at}.Str()
		if s != x.want || r != (Reader{Text: x.s, At: x.at + 2 + len(x.want)}) || r.Left() != x.left {
			t.Errorf("%.20q at %d: %.20q, at %d, %v", x.s, x.at, s, r.At, r.E)
		}
	}
}

func TestReadStrErrors(t *testing.T) {
	for _, x := range []struct {
		s  string
		at int
	}{
		{"", 0}, {"\x00", 0}, {"\x00\x01", 0}, {"\x00\x03ab", 0}, {"\xff\xff" + strings.Repeat("q", 65534), 0},
		{"ab\x00\x02h", 2}, {"ab\x00", 2}, {"ab\x00", 3},
		{"\x00\x00", 3}, {"\x00\x00", -1}, {"\x00\x00", math.MinInt}, {"\x00\x00", math.MaxInt},
	} {
		r, s := Reader{Text: x.s, At: x.at}.Str()
		if s != "" || r != (Reader{x.s, x.at, api.ErrCut}) {
			t.Errorf("%.20q at %d: %.20q, at %d, %v", x.s, x.at, s, r.At, r.E)
		}
	}
}

func TestReaderWithErrorStays(t *testing.T) {
	s := "\x00\x01abcdefgh"
	for _, e := range []api.Errno{api.ErrNil, api.ErrArg, api.ErrCut, api.ErrTwice, -1, 1000} {
		for _, at := range []int{0, 3, len(s), len(s) + 1, -1, math.MinInt, math.MaxInt} {
			r := Reader{s, at, e}
			for _, width := range []int{-1, 0, 1, 2, 6, 7} {
				if x, n := r.Num(width); x != r || n != 0 {
					t.Error(r, width, x, n)
				}
			}
			if x, u := r.Word(); x != r || u != 0 {
				t.Error(r, x, u)
			}
			if x, got := r.Str(); x != r || got != "" {
				t.Error(r, x, got)
			}
		}
	}
}

func TestReadingLeavesTheReaderItself(t *testing.T) {
	r := Open("\x00\x01abcdefgh")
	r.Num(2)
	r.Word()
	r.Str()
	r.Num(7)
	if r != Open("\x00\x01abcdefgh") {
		t.Error(r)
	}
}

// P1.3

func TestEnd(t *testing.T) {
	for _, x := range []struct {
		r    Reader
		want api.Errno
	}{
		{Reader{}, api.OK},
		{Open(""), api.OK},
		{Open("a"), api.ErrLong},
		{Reader{Text: "abc", At: 2}, api.ErrLong},
		{Reader{Text: "abc", At: 3}, api.OK},
		{Reader{Text: "abc", At: 4}, api.OK},
		{Reader{Text: "abc", At: -1}, api.OK},
		{Reader{Text: "abc", At: math.MinInt}, api.OK},
		{Reader{Text: "abc", At: math.MaxInt}, api.OK},
		// Its own error is named first.
		{Reader{"abc", 0, api.ErrCut}, api.ErrCut},
		{Reader{"abc", 3, api.ErrArg}, api.ErrArg},
		{Reader{"abc", -1, api.ErrTwice}, api.ErrTwice},
		{Reader{"", 0, -5}, -5},
	} {
		if e := x.r.End(); e != x.want {
			t.Errorf("%v: %v", x.r, e)
		}
	}
}

// P1.4

func TestNumIsReadAsItWasLaid(t *testing.T) {
	for width := 1; width <= 6; width++ {
		for _, n := range numbers(width) {
			for _, ahead := range []string{"", "ab"} {
				b, e := Num([]byte(ahead), width, n)
				if e != api.OK || len(b) != len(ahead)+width {
					t.Fatal(width, n, b, e)
				}
				r, got := Reader{Text: string(b), At: len(ahead)}.Num(width)
				if got != n || r.End() != api.OK {
					t.Error(width, n, got, r)
				}
			}
		}
	}
}

func TestEachNumOfTwoBytesIsReadAsItWasLaid(t *testing.T) {
	for n := range 1 << 16 {
		b, e := Num(nil, 2, n)
		if r, got := Open(string(b)).Num(2); e != api.OK || got != n || r.End() != api.OK {
			t.Fatal(n, b, e, got, r)
		}
	}
}

func TestWordIsReadAsItWasLaid(t *testing.T) {
	for i := range 64 {
		for _, u := range []uint64{0, 1 << i, 1<<i - 1, ^(uint64(1) << i), 0x9e3779b97f4a7c15 * uint64(i)} {
			r, got := Open(string(Word(nil, u))).Word()
			if got != u || r.End() != api.OK {
				t.Errorf("%x: %x, %v", u, got, r)
			}
		}
	}
}

func TestTextIsReadAsItWasLaid(t *testing.T) {
	all := make([]byte, 256)
	for i := range all {
		all[i] = byte(i)
	}
	for _, s := range []string{"", "a", "hi", "\x00", string(all), strings.Repeat(string(all), 255), strings.Repeat("z", 65535)} {
		b, e := Text(nil, s)
		if r, got := Open(string(b)).Str(); e != api.OK || got != s || r.End() != api.OK {
			t.Errorf("of %d bytes: of %d, %v", len(s), len(got), e)
		}
	}
}

func TestWhatIsLaidInARowIsReadInARow(t *testing.T) {
	b, _ := Num(nil, 3, 70000)
	b, _ = Text(b, "one\x00")
	b = Word(b, 1<<63+5)
	b, _ = Text(b, "")
	b, _ = Num(b, 1, 255)
	r, n := Open(string(b)).Num(3)
	r, s := r.Str()
	r, u := r.Word()
	r, empty := r.Str()
	if r.End() != api.ErrLong {
		t.Error(r)
	}
	r, last := r.Num(1)
	if n != 70000 || s != "one\x00" || u != 1<<63+5 || empty != "" || last != 255 || r.End() != api.OK {
		t.Error(n, s, u, empty, last, r)
	}
	if r, n = r.Num(1); n != 0 || r.End() != api.ErrCut {
		t.Error(n, r)
	}
}

func TestWhatIsCutIsReadByNoReader(t *testing.T) {
	b, _ := Text(nil, "abcdefgh")
	for n := range len(b) {
		if r, s := Open(string(b[:n])).Str(); s != "" || r != (Reader{string(b[:n]), 0, api.ErrCut}) {
			t.Error(n, s, r)
		}
	}
}
