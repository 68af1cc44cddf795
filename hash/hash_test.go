package hash

import (
	"math"
	"math/big"
	"strings"
	"testing"

	"telltale/api"
	"telltale/value"
)

const (
	least    = math.MinInt
	greatest = math.MaxInt
)

// allBytes is a text with each byte once.
func allBytes() string {
	b := make([]byte, 256)
	for i := range b {
		b[i] = byte(i)
	}
	return string(b)
}

// texts are texts of all kinds: short and long ones, with noughts, and with bytes that are no letters' ones.
func texts() []string {
	l := []string{"", "\x00\x00", "\x00\x00\x00", "ab", "ba", "hello", "hello ", "foobar", "\x80\x80", "\xff\xff\xff\xff", "é", allBytes(),
		strings.Repeat("x", 1000), strings.Repeat("\x00", 257)}
	for _, c := range []byte(allBytes()) {
		l = append(l, string([]byte{c}))
	}
	return l
}

// numbers are those about each power of two, and some without a rule to the eye.
func numbers() []uint64 {
	l := []uint64{0, Start, math.MaxUint64}
	for i := range 64 {
		p := uint64(1) << i
		l = append(l, p-1, p, p+1, ^p, 0x9e3779b97f4a7c15*uint64(i+1))
	}
	return l
}

func whole(n int) value.Value { return value.Value{Kind: value.Int, N: n} }

// right are values that may be, and their bytes.
var right = []struct {
	v value.Value
	s string
}{
	{whole(0), "\x01\x00"},
	{whole(-1), "\x01\x01"},
	{whole(1), "\x01\x02"},
	{whole(150), "\x01\xac\x02"},
	{whole(api.MaxNum), "\x01\x80\x80\x80\x80\x80\x80\x80\x80\x80\x01"},
	{whole(-api.MaxNum), "\x01\xff\xff\xff\xff\xff\xff\xff\xff\x7f"},
	{value.Value{Kind: value.Flag}, "\x02\x00"},
	{value.Value{Kind: value.Flag, N: 1}, "\x02\x01"},
	{value.Value{Kind: value.Real}, "\x03\x00\x00\x00\x00\x00\x00\x00\x00"},
	{value.Value{Kind: value.Real, Bits: 1 << 63}, "\x03\x80\x00\x00\x00\x00\x00\x00\x00"},
	{value.Value{Kind: value.Real, Bits: 0x3ff0000000000000}, "\x03\x3f\xf0\x00\x00\x00\x00\x00\x00"},
	{value.Value{Kind: value.Text}, "\x04\x00"},
	{value.Value{Kind: value.Text, Text: "x"}, "\x04\x01x"},
	{value.Value{Kind: value.Text, Text: "\x00\xff"}, "\x04\x02\x00\xff"},
	{value.Value{Kind: value.Text, Text: "abcdefghijklmnopqrstuvwx"}, "\x04\x18abcdefghijklmnopqrstuvwx"},
}

// wrong are values that may not be.
var wrong = []value.Value{
	{},
	{Kind: 5},
	{Kind: 255, N: 1},
	whole(api.MaxNum + 1),
	whole(-api.MaxNum - 1),
	whole(least),
	{Kind: value.Int, N: 1, Text: "x"},
	{Kind: value.Int, N: 1, Bits: 1},
	{Kind: value.Flag, N: 2},
	{Kind: value.Flag, N: -1},
	{Kind: value.Real, Bits: 0x7ff8000000000001},
	{Kind: value.Real, N: 1},
	{Kind: value.Text, Text: "abcdefghijklmnopqrstuvwxy"},
	{Kind: value.Text, Text: "x", N: 1},
}

// patterns are numbers of patterns, and the byte that they come to.
var patterns = []struct {
	n int
	c byte
}{
	{0, 0}, {1, 1}, {2, 2}, {3, 3}, {api.MaxPatterns, 4}, {127, 127}, {128, 128}, {200, 200}, {255, 255},
	{256, 0}, {257, 1}, {511, 255}, {512, 0}, {1000, 232}, {1 << 40, 0}, {greatest, 255},
	{-1, 255}, {-2, 254}, {-128, 128}, {-255, 1}, {-256, 0}, {-257, 255}, {least, 0}, {least + 7, 7},
}

// P8.1

func TestStartIsTheSumOfNoBytes(t *testing.T) {
	if uint64(Start) != 14695981039346656037 || Sum("") != Start {
		t.Errorf("Start = %x, Sum of nothing = %x", uint64(Start), Sum(""))
	}
}

func TestSumOfTextsIsThatOfFNV1a(t *testing.T) {
	for _, x := range []struct {
		s   string
		sum uint64
	}{
		{"", 0xcbf29ce484222325},
		{"a", 0xaf63dc4c8601ec8c},
		{"b", 0xaf63df4c8601f1a5},
		{"fo", 0x08985907b541d342},
		{"foo", 0xdcb27518fed9d577},
		{"foobar", 0x85944171f73967e8},
		{"\x00", 0xaf63bd4c8601b7df},
		{"\xff\x00\x00\x01", 0x6961196491cc682d},
	} {
		if got := Sum(x.s); got != x.sum {
			t.Errorf("Sum(%q) = %x, not %x", x.s, got, x.sum)
		}
	}
}

// longAdd adds as the document's words say it, by numbers of any length.
func longAdd(sum uint64, s string) uint64 {
	prime, _ := new(big.Int).SetString("100000001b3", 16)
	round := new(big.Int).Lsh(big.NewInt(1), 64)
	n := new(big.Int).SetUint64(sum)
	for i := 0; i < len(s); i++ {
		n.Xor(n, big.NewInt(int64(s[i])))
		n.Mod(n.Mul(n, prime), round)
	}
	return n.Uint64()
}

func TestAddGoesOnFromAnySum(t *testing.T) {
	for _, s := range texts() {
		for _, sum := range numbers() {
			if got, want := Add(sum, s), longAdd(sum, s); got != want {
				t.Fatalf("Add(%x, %q) = %x, not %x", sum, s, got, want)
			}
		}
	}
}

func TestAddOfNoBytesIsThatSum(t *testing.T) {
	for _, sum := range numbers() {
		if got := Add(sum, ""); got != sum {
			t.Errorf("Add(%x, nothing) = %x", sum, got)
		}
	}
}

func TestSumIsAddFromStart(t *testing.T) {
	for _, s := range texts() {
		if got, want := Sum(s), longAdd(14695981039346656037, s); got != want {
			t.Errorf("Sum(%q) = %x, not %x", s, got, want)
		}
	}
}

func TestSumHangsOnTheBytesOrderAndNumber(t *testing.T) {
	for _, x := range [][2]string{{"ab", "ba"}, {"", "\x00"}, {"\x00", "\x00\x00"}, {"a", "a\x00"}, {"a", "\x00a"}, {"a", "A"}, {"a", "\xe1"}} {
		if Sum(x[0]) == Sum(x[1]) {
			t.Errorf("%q and %q have one sum", x[0], x[1])
		}
	}
}

// P8.2

// longMix mixes as the document's words say it, by numbers of any length.
func longMix(u uint64) uint64 {
	round := new(big.Int).Lsh(big.NewInt(1), 64)
	n := new(big.Int).SetUint64(u)
	for _, x := range []struct {
		down uint
		by   string
	}{{30, "bf58476d1ce4e5b9"}, {27, "94d049bb133111eb"}, {31, "1"}} {
		by, _ := new(big.Int).SetString(x.by, 16)
		n.Xor(n, new(big.Int).Rsh(n, x.down))
		n.Mod(n.Mul(n, by), round)
	}
	return n.Uint64()
}

func TestMixOfNumbers(t *testing.T) {
	for _, x := range []struct{ u, mixed uint64 }{
		{0, 0},
		{0x9e3779b97f4a7c15, 0xe220a8397b1dcdaf},
		{0x3c6ef372fe94f82a, 0x6e789e6aa1b965f4},
		{0xdaa66d2c7ddf743f, 0x06c45d188009454f},
		{0x78dde6e5fd29f054, 0xf88bb8a8724c81ec},
		{0x1715609f7c746c69, 0x1b39896a51a8749b},
	} {
		if got := Mix(x.u); got != x.mixed {
			t.Errorf("Mix(%x) = %x, not %x", x.u, got, x.mixed)
		}
	}
}

func TestMixIsAsTheWordsSayIt(t *testing.T) {
	for _, u := range numbers() {
		if got, want := Mix(u), longMix(u); got != want {
			t.Errorf("Mix(%x) = %x, not %x", u, got, want)
		}
	}
}

func TestMixTellsNumbersApart(t *testing.T) {
	from := map[uint64]uint64{}
	for _, u := range numbers() {
		other, is := from[Mix(u)]
		if is && other != u {
			t.Errorf("%x and %x are mixed to one number", u, other)
		}
		from[Mix(u)] = u
	}
}

// P8.3

func TestKeyIsThePatternsByteAndTheValuesBytes(t *testing.T) {
	for _, x := range right {
		for _, p := range patterns {
			if key := Key(p.n, x.v); key != string([]byte{p.c})+x.s {
				t.Errorf("Key(%d, %v) = %q", p.n, x.v, key)
			}
		}
	}
}

func TestKeyIsEmptyOfAValueThatMayNotBe(t *testing.T) {
	for _, v := range wrong {
		for _, p := range patterns {
			if key := Key(p.n, v); key != "" {
				t.Errorf("Key(%d, %v) = %q", p.n, v, key)
			}
		}
	}
}

func TestBareIsThePatternsByteAlone(t *testing.T) {
	for _, p := range patterns {
		if key := Bare(p.n); key != string([]byte{p.c}) {
			t.Errorf("Bare(%d) = %q", p.n, key)
		}
	}
}

func TestPatternIsTheFirstBytesNumber(t *testing.T) {
	for n := range 256 {
		c := string([]byte{byte(n)})
		for _, behind := range []string{"", "\x00", "x", "\x01\x02", "\xff\xff", strings.Repeat("y", 100)} {
			if got := Pattern(c + behind); got != n {
				t.Errorf("Pattern(%q) = %d", c+behind, got)
			}
		}
	}
}

func TestPatternOfAnEmptyKey(t *testing.T) {
	if got := Pattern(""); got != -1 {
		t.Errorf("Pattern of nothing = %d", got)
	}
}

// P8.4

func TestWorkerIsMixOfTheKeysSumModuloWorkers(t *testing.T) {
	for _, key := range texts() {
		mixed := new(big.Int).SetUint64(longMix(longAdd(14695981039346656037, key)))
		for _, workers := range []int{1, 2, 3, 4, 5, 7, 8, 15, 16, 17, 100, 1 << 32, 1<<62 + 1, greatest} {
			want := new(big.Int).Mod(mixed, big.NewInt(int64(workers))).Int64()
			if got := Worker(key, workers); int64(got) != want {
				t.Errorf("Worker(%q, %d) = %d, not %d", key, workers, got, want)
			}
		}
	}
}

func TestWorkerOfFewerThanOne(t *testing.T) {
	for _, key := range texts() {
		for _, workers := range []int{0, -1, -2, -16, least} {
			if got := Worker(key, workers); got != 0 {
				t.Errorf("Worker(%q, %d) = %d", key, workers, got)
			}
		}
	}
}

func TestWorkerOfAnEmptyKey(t *testing.T) {
	// The empty key's sum is Start: f52a15e9a9b5e89b when it is mixed.
	for _, x := range []struct{ workers, is int }{{1, 0}, {2, 1}, {16, 11}, {256, 0x9b}, {1 << 16, 0xe89b}} {
		if got := Worker("", x.workers); got != x.is {
			t.Errorf("Worker of an empty key among %d = %d", x.workers, got)
		}
	}
}

func TestEachWorkerHasKeys(t *testing.T) {
	for workers := 1; workers <= api.MaxWorkers; workers++ {
		count := make([]int, workers)
		for n := range 1000 {
			count[Worker(Key(0, whole(n)), workers)]++
		}
		for at, c := range count {
			if c == 0 {
				t.Errorf("among %d, worker %d has no key", workers, at)
			}
		}
	}
}

// P8.5

func TestSumOfTextsSideBySide(t *testing.T) {
	for _, a := range texts() {
		for _, b := range texts() {
			if Sum(a+b) != Add(Sum(a), b) {
				t.Fatalf("%q and %q: %x, not %x", a, b, Add(Sum(a), b), Sum(a+b))
			}
		}
	}
}

func TestKeyTellsItsPatternAndItsValue(t *testing.T) {
	for _, x := range right {
		for n := range 256 {
			key := Key(n, x.v)
			v, next, e := value.Take(key, 1)
			if Pattern(key) != n || v != x.v || next != len(key) || e != api.OK {
				t.Errorf("Key(%d, %v) tells %d and %v (%d, %v)", n, x.v, Pattern(key), v, next, e)
			}
		}
	}
}

func TestBareTellsItsPattern(t *testing.T) {
	for n := range 256 {
		if Pattern(Bare(n)) != n {
			t.Errorf("Bare(%d) tells %d", n, Pattern(Bare(n)))
		}
	}
}

func TestKeysAreEachUnlikeTheOthers(t *testing.T) {
	type of struct {
		n  int
		at int // -1 of a bare key
	}
	from := map[string]of{}
	for n := range 256 {
		for at := -1; at < len(right); at++ {
			key := Bare(n)
			if at >= 0 {
				key = Key(n, right[at].v)
			}
			if other, is := from[key]; is {
				t.Errorf("%v and %v have the key %q", other, of{n, at}, key)
			}
			from[key] = of{n, at}
		}
	}
}
