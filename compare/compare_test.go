package compare

import (
	"math"
	"math/big"
	"strings"
	"testing"

	"telltale/api"
	"telltale/value"
)

// Doubles by their bits.
const (
	minus0   uint64 = 0x8000000000000000
	least    uint64 = 0x0000000000000001
	greatest uint64 = 0x7fefffffffffffff
	infinite uint64 = 0x7ff0000000000000
	clean    uint64 = 0x7ff8000000000000
	below    uint64 = 0x8000000000000000 // the sign
)

const two53 = 1 << 53 // from here on doubles lack whole numbers

// six are the tests' numbers.
var six = []uint8{1, 2, 3, 4, 5, 6}

// noTests are numbers that are none of the six.
var noTests = []uint8{0, 7, 8, 9, 10, 127, 128, 129, 130, 131, 132, 133, 134, 254, 255}

func ofFloat(f float64) value.Value {
	return value.OfReal(math.Float64bits(f))
}

// rising are numbers in order, those of one row equal.
func rising() [][]value.Value {
	i, r := value.OfInt, ofFloat
	var l [][]value.Value
	above := [][]value.Value{
		{value.OfReal(least)}, {value.OfReal(0x000fffffffffffff)}, {value.OfReal(0x0010000000000000)}, {r(0.5)}, {r(math.Nextafter(1, 0))},
		{i(1), r(1)}, {r(math.Nextafter(1, 2))}, {r(1.5)}, {i(2), r(2)}, {r(2.5)}, {i(3), r(3)}, {r(299.75)}, {i(300), r(300)}, {r(300.25)},
		{r(two53/4 - 0.5)}, {i(two53 / 4), r(two53 / 4)}, {r(two53/4 + 0.5)}, {r(two53/2 - 0.5)}, {i(two53 / 2), r(two53 / 2)}, {i(two53/2 + 1), r(two53/2 + 1)},
		{i(two53 - 1), r(two53 - 1)}, {i(two53), r(two53)}, {i(two53 + 1)}, {i(two53 + 2), r(two53 + 2)}, {i(two53 + 3)},
		{i(api.MaxNum - 513)}, {i(api.MaxNum - 512), r(api.MaxNum - 512)}, {i(api.MaxNum - 511)}, {i(api.MaxNum - 1)}, {i(api.MaxNum), r(api.MaxNum)},
		{r(api.MaxNum + 1024)}, {r(1 << 63)}, {r(1 << 64)}, {r(1e300)}, {value.OfReal(greatest)}, {value.OfReal(infinite)},
	}
	for at := range above {
		row := above[len(above)-1-at]
		l = append(l, nil)
		for _, v := range row {
			if v.Kind == value.Int {
				l[at] = append(l[at], i(-v.N))
			} else {
				l[at] = append(l[at], value.OfReal(v.Bits|below))
			}
		}
	}
	l = append(l, []value.Value{i(0), r(0), value.OfReal(minus0)})
	return append(l, above...)
}

// texts are in order.
func texts() []value.Value {
	var l []value.Value
	for _, s := range []string{"", "\x00", "0", "10", "9", "Z", "a", "a\x00", "aa", "ab", "b", "\x7f", "\x80", "\u00e9", "\xff", strings.Repeat("\xff", 24)} {
		l = append(l, value.OfText(s))
	}
	return l
}

// strewn are numbers without a rule to the eye, with doubles near to the whole numbers among them.
func strewn(n int) []value.Value {
	var l []value.Value
	u := uint64(88172645463325252)
	for range n {
		u ^= u << 13
		u ^= u >> 7
		u ^= u << 17
		whole := int(u) >> (1 + u%63)
		near := math.Float64bits(float64(whole)) + (u>>7)%3 - 1
		l = append(l, value.OfInt(whole), value.OfReal(near), value.OfReal(u))
	}
	return l
}

// numbers are all numbers that tests go through one by one, what is no number not among them.
func numbers() []value.Value {
	var l []value.Value
	for _, row := range rising() {
		l = append(l, row...)
	}
	for _, v := range strewn(60) {
		if v.Bits != clean {
			l = append(l, v)
		}
	}
	return l
}

// values are all that may be which tests go through one by one.
func values() []value.Value {
	l := append(numbers(), texts()...)
	return append(l, value.OfReal(clean), value.OfFlag(false), value.OfFlag(true))
}

// wrong are values that may not be: of kinds that are none, beyond the limits, and with a field too many.
func wrong() []value.Value {
	return []value.Value{
		{}, {Kind: 5}, {Kind: 255}, {N: 1}, {Kind: 5, N: 1}, {Kind: 6, Bits: 1}, {Kind: 7, Text: "a"},
		{Kind: value.Int, N: api.MaxNum + 1}, {Kind: value.Int, N: -api.MaxNum - 1}, {Kind: value.Int, N: math.MaxInt}, {Kind: value.Int, N: math.MinInt},
		{Kind: value.Int, N: 1, Bits: 1}, {Kind: value.Int, Text: "a"},
		{Kind: value.Flag, N: 2}, {Kind: value.Flag, N: -1}, {Kind: value.Flag, N: 1, Bits: 1}, {Kind: value.Flag, Text: "a"},
		{Kind: value.Real, Bits: clean | below}, {Kind: value.Real, Bits: clean + 1}, {Kind: value.Real, Bits: infinite + 1},
		{Kind: value.Real, N: 1}, {Kind: value.Real, Bits: 1, Text: "a"},
		{Kind: value.Text, Text: strings.Repeat("a", 25)}, {Kind: value.Text, Text: "a", N: 1}, {Kind: value.Text, Bits: 1},
	}
}

// bySign tells what tests say of two that are in an order: a is less (-1), equal (0), or greater (1).
func bySign(op uint8, order int) bool {
	switch op {
	case 1:
		return order == 0
	case 2:
		return order != 0
	case 3:
		return order < 0
	case 4:
		return order <= 0
	case 5:
		return order > 0
	case 6:
		return order >= 0
	}
	return false
}

// checkOrder asks all tests of two that are in order, both ways round.
func checkOrder(t *testing.T, a, b value.Value, order int) {
	t.Helper()
	for _, op := range six {
		if Holds(op, a, b) != bySign(op, order) {
			t.Errorf("Holds(%d, %#v, %#v) = %t", op, a, b, !bySign(op, order))
		}
		if Holds(op, b, a) != bySign(op, -order) {
			t.Errorf("Holds(%d, %#v, %#v) = %t", op, b, a, !bySign(op, -order))
		}
	}
}

// checkOnly asks all tests of two, both ways round: just one holds, or none (0).
func checkOnly(t *testing.T, a, b value.Value, holds uint8) {
	t.Helper()
	for _, op := range six {
		if Holds(op, a, b) != (op == holds) || Holds(op, b, a) != (op == holds) {
			t.Errorf("Holds(%d, %#v, %#v) = %t, turned round %t", op, a, b, Holds(op, a, b), Holds(op, b, a))
		}
	}
}

// P5.1

func TestTestsHaveTheirNumbers(t *testing.T) {
	if Eq != 1 || Ne != 2 || Lt != 3 || Le != 4 || Gt != 5 || Ge != 6 {
		t.Error(Eq, Ne, Lt, Le, Gt, Ge)
	}
}

func TestSignAndOp(t *testing.T) {
	signs := map[int]string{1: "=", 2: "!=", 3: "<", 4: "<=", 5: ">", 6: ">="}
	for op := range 256 {
		if s := Sign(uint8(op)); s != signs[op] {
			t.Errorf("Sign(%d) = %q", op, s)
		}
	}
	for op, s := range signs {
		if got := Op(s); int(got) != op {
			t.Errorf("Op(%q) = %d", s, got)
		}
	}
}

func TestOpOfOtherTexts(t *testing.T) {
	for _, s := range []string{
		"", " ", "\x00", "!", "==", "=!", "=<", "=>", "<>", "><", "<<", ">>", "!!", "!==", "<==", ">==", "<=>", "!<", "!>",
		" =", "= ", "< ", " <", "< =", "<\x00", "<=\x00", "Eq", "eq", "lt", "1", "\x01", "\u2260", "\u2264", "\xff", strings.Repeat("<", 70000),
	} {
		if op := Op(s); op != 0 {
			t.Errorf("Op(%q) = %d", s, op)
		}
	}
}

// P5.2

func TestNumbersAreHeldAgainstEachOtherAsNumbers(t *testing.T) {
	l := rising()
	for i, row := range l {
		for _, a := range row {
			for _, b := range row {
				checkOrder(t, a, b, 0)
			}
			for _, ahead := range l[:i] {
				for _, b := range ahead {
					checkOrder(t, b, a, -1)
				}
			}
		}
	}
}

// exact tells a number that is not infinite as one of any length; 2^1100 stands for infinity.
func exact(v value.Value) *big.Float {
	if v.Kind == value.Int {
		return new(big.Float).SetInt64(int64(v.N))
	}
	f := math.Float64frombits(v.Bits)
	if math.IsInf(f, 0) {
		return new(big.Float).SetMantExp(big.NewFloat(math.Copysign(1, f)), 1100)
	}
	return new(big.Float).SetFloat64(f)
}

func TestNumbersAreHeldAgainstEachOtherExactly(t *testing.T) {
	for _, a := range numbers() {
		for _, b := range numbers() {
			checkOrder(t, a, b, exact(a).Cmp(exact(b)))
		}
	}
}

func TestOfWhatIsNoNumberOnlyNeHolds(t *testing.T) {
	none := value.OfReal(clean)
	checkOnly(t, none, none, Ne)
	for _, v := range values() {
		checkOnly(t, none, v, Ne)
	}
}

func TestFlagsAreTestedByEqAndNeAlone(t *testing.T) {
	no, yes := value.OfFlag(false), value.OfFlag(true)
	checkOnly(t, no, no, Eq)
	checkOnly(t, yes, yes, Eq)
	checkOnly(t, no, yes, Ne)
}

func TestTextsAreHeldAgainstEachOtherByTheirBytes(t *testing.T) {
	l := texts()
	for i, a := range l {
		checkOrder(t, a, a, 0)
		for _, b := range l[:i] {
			checkOrder(t, b, a, -1)
		}
	}
}

func TestOfUnlikeKindsOnlyNeHolds(t *testing.T) {
	asNumber := func(v value.Value) bool { return v.Kind == value.Int || v.Kind == value.Real }
	for _, a := range values() {
		for _, b := range values() {
			if a.Kind != b.Kind && !(asNumber(a) && asNumber(b)) {
				checkOnly(t, a, b, Ne)
			}
		}
	}
	// Not even of those that look alike.
	for _, n := range []int{0, 1} {
		checkOnly(t, value.OfInt(n), value.OfFlag(n == 1), Ne)
		checkOnly(t, ofFloat(float64(n)), value.OfFlag(n == 1), Ne)
		checkOnly(t, value.OfInt(n), value.OfText(string(rune('0'+n))), Ne)
	}
	checkOnly(t, value.OfText(""), value.OfFlag(false), Ne)
}

func TestOfNumbersThatAreNoTestsNothingHolds(t *testing.T) {
	l := []value.Value{
		value.OfInt(0), value.OfInt(1), ofFloat(0), ofFloat(1.5), value.OfReal(clean), value.OfFlag(false), value.OfFlag(true),
		value.OfText(""), value.OfText("a"), {}, {Kind: 5},
	}
	for _, a := range l {
		for _, b := range l {
			for _, op := range noTests {
				if Holds(op, a, b) {
					t.Errorf("Holds(%d, %#v, %#v)", op, a, b)
				}
			}
		}
	}
}

func TestOfWhatMayNotBeNothingHolds(t *testing.T) {
	for _, a := range wrong() {
		for _, b := range append(wrong(), values()...) {
			checkOnly(t, a, b, 0)
		}
	}
}

// P5.3

// checkCall holds what a sum or a difference answers against what it should; no value stands for false.
func checkCall(t *testing.T, name string, call func(a, b value.Value) (value.Value, bool), a, b, want value.Value) {
	t.Helper()
	got, ok := call(a, b)
	if got != want || ok != (want != value.Value{}) {
		t.Errorf("%s(%#v, %#v) = %#v, %t, not %#v", name, a, b, got, ok, want)
	}
}

func TestSumsAndDifferencesOfInts(t *testing.T) {
	for _, x := range []struct {
		a, b        int
		plus, minus int
		sum, less   bool
	}{
		{0, 0, 0, 0, true, true}, {1, 2, 3, -1, true, true}, {-3, 5, 2, -8, true, true}, {300, -300, 0, 600, true, true},
		{api.MaxNum, 0, api.MaxNum, api.MaxNum, true, true}, {0, api.MaxNum, api.MaxNum, -api.MaxNum, true, true},
		{api.MaxNum, 1, 0, api.MaxNum - 1, false, true}, {api.MaxNum, -1, api.MaxNum - 1, 0, true, false},
		{api.MaxNum - 1, 1, api.MaxNum, api.MaxNum - 2, true, true}, {1 - api.MaxNum, 1, 2 - api.MaxNum, -api.MaxNum, true, true},
		{-api.MaxNum, 1, 1 - api.MaxNum, 0, true, false}, {-api.MaxNum, -1, 0, 1 - api.MaxNum, false, true},
		// 2^63 wraps round, and -2^63 does not.
		{api.MaxNum, api.MaxNum, 0, 0, false, true}, {-api.MaxNum, -api.MaxNum, 0, 0, false, true},
		{api.MaxNum, -api.MaxNum, 0, 0, true, false}, {-api.MaxNum, api.MaxNum, 0, 0, true, false},
		{1 << 61, 1 << 61, api.MaxNum, 0, true, true}, {1 << 61, 1<<61 + 1, 0, -1, false, true},
	} {
		var sum, less value.Value
		if x.sum {
			sum = value.Value{Kind: value.Int, N: x.plus}
		}
		if x.less {
			less = value.Value{Kind: value.Int, N: x.minus}
		}
		checkCall(t, "Plus", Plus, value.OfInt(x.a), value.OfInt(x.b), sum)
		checkCall(t, "Minus", Minus, value.OfInt(x.a), value.OfInt(x.b), less)
	}
}

func TestSumsAndDifferencesOfIntsHaveNoRounding(t *testing.T) {
	inLimits := func(n *big.Int) value.Value {
		if n.CmpAbs(big.NewInt(api.MaxNum)) > 0 {
			return value.Value{}
		}
		return value.Value{Kind: value.Int, N: int(n.Int64())}
	}
	for _, a := range numbers() {
		for _, b := range numbers() {
			if a.Kind == value.Int && b.Kind == value.Int {
				m, n := big.NewInt(int64(a.N)), big.NewInt(int64(b.N))
				checkCall(t, "Plus", Plus, a, b, inLimits(new(big.Int).Add(m, n)))
				checkCall(t, "Minus", Minus, a, b, inLimits(new(big.Int).Sub(m, n)))
			}
		}
	}
}

func TestSumsAndDifferencesWithReals(t *testing.T) {
	i, r, bits := value.OfInt, ofFloat, value.OfReal
	for _, x := range []struct{ a, b, plus, minus value.Value }{
		{r(1.5), r(2.25), r(3.75), r(-0.75)}, {i(2), r(0.5), r(2.5), r(1.5)}, {r(0.5), i(2), r(2.5), r(-1.5)},
		// Of an Int and a Real that is whole a Real.
		{i(1), r(2), r(3), r(-1)}, {r(2), i(2), r(4), r(0)},
		// The Int is rounded, and then the sum.
		{i(two53 + 1), r(0), r(two53), r(two53)}, {r(1), i(two53 + 1), r(two53), r(1 - two53)}, {i(two53 + 3), r(1), r(two53 + 4), r(two53 + 4)},
		{i(api.MaxNum), r(api.MaxNum), r(1 << 63), r(0)}, {i(-api.MaxNum), r(api.MaxNum), r(0), r(-1 << 63)},
		{i(api.MaxNum - 1), r(api.MaxNum), r(1 << 63), r(0)},
		// Zeros.
		{r(0), r(0), r(0), r(0)}, {bits(minus0), r(0), r(0), bits(minus0)}, {r(0), bits(minus0), r(0), r(0)}, {bits(minus0), bits(minus0), bits(minus0), r(0)},
		{i(0), r(0), r(0), r(0)}, {i(0), bits(minus0), r(0), r(0)}, {bits(minus0), i(0), r(0), bits(minus0)}, {r(0), i(0), r(0), r(0)},
		// The least and the greatest.
		{bits(least), bits(least), bits(2), r(0)}, {bits(least), i(1), r(1), r(-1)},
		{bits(greatest), bits(greatest), bits(infinite), r(0)}, {bits(greatest), i(api.MaxNum), bits(greatest), bits(greatest)},
		// What is infinite, and what is no number.
		{bits(infinite), i(5), bits(infinite), bits(infinite)}, {i(5), bits(infinite), bits(infinite), bits(infinite | below)},
		{bits(infinite), bits(infinite), bits(infinite), bits(clean)}, {bits(infinite), bits(infinite | below), bits(clean), bits(infinite)},
		{bits(infinite | below), bits(infinite | below), bits(infinite | below), bits(clean)},
		{bits(clean), i(0), bits(clean), bits(clean)}, {i(0), bits(clean), bits(clean), bits(clean)}, {bits(clean), bits(clean), bits(clean), bits(clean)},
		{r(1), bits(clean), bits(clean), bits(clean)}, {bits(infinite), bits(clean), bits(clean), bits(clean)},
	} {
		checkCall(t, "Plus", Plus, x.a, x.b, x.plus)
		checkCall(t, "Minus", Minus, x.a, x.b, x.minus)
	}
}

// rounded tells a number as a double.
func rounded(v value.Value) float64 {
	if v.Kind == value.Int {
		return float64(v.N)
	}
	return math.Float64frombits(v.Bits)
}

func TestSumsAndDifferencesWithRealsAreRounded(t *testing.T) {
	l := append(numbers(), value.OfReal(clean))
	for _, a := range l {
		for _, b := range l {
			if a.Kind == value.Real || b.Kind == value.Real {
				checkCall(t, "Plus", Plus, a, b, ofFloat(rounded(a)+rounded(b)))
				checkCall(t, "Minus", Minus, a, b, ofFloat(rounded(a)-rounded(b)))
			}
		}
	}
}

func TestOthersHaveNoSumAndNoDifference(t *testing.T) {
	others := append(texts(), value.OfFlag(false), value.OfFlag(true))
	for _, a := range append(others, wrong()...) {
		for _, b := range append(values(), wrong()...) {
			for _, turned := range [][2]value.Value{{a, b}, {b, a}} {
				checkCall(t, "Plus", Plus, turned[0], turned[1], value.Value{})
				checkCall(t, "Minus", Minus, turned[0], turned[1], value.Value{})
			}
		}
	}
}

// P5.4

// fitting are the kinds that may be tested by all six.
var fitting = map[[2]uint8]bool{{1, 1}: true, {1, 3}: true, {3, 1}: true, {3, 3}: true, {4, 4}: true}

func TestFits(t *testing.T) {
	for a := range 256 {
		for b := range 256 {
			kinds := [2]uint8{uint8(a), uint8(b)}
			for _, op := range six {
				want := fitting[kinds] || kinds == [2]uint8{2, 2} && op <= 2
				if Fits(op, kinds[0], kinds[1]) != want {
					t.Errorf("Fits(%d, %d, %d) = %t", op, a, b, !want)
				}
			}
		}
	}
}

func TestNothingFitsNumbersThatAreNoTests(t *testing.T) {
	for op := range 256 {
		for a := range uint8(6) {
			for b := range uint8(6) {
				if (op < 1 || op > 6) && Fits(uint8(op), a, b) {
					t.Errorf("Fits(%d, %d, %d)", op, a, b)
				}
			}
		}
	}
}

func TestSum(t *testing.T) {
	sums := map[[2]uint8]uint8{{1, 1}: 1, {1, 3}: 3, {3, 1}: 3, {3, 3}: 3}
	for a := range 256 {
		for b := range 256 {
			kinds := [2]uint8{uint8(a), uint8(b)}
			if got := Sum(kinds[0], kinds[1]); got != sums[kinds] {
				t.Errorf("Sum(%d, %d) = %d", a, b, got)
			}
		}
	}
}

func TestSumsAreOfTheKindThatIsTold(t *testing.T) {
	for _, a := range values() {
		for _, b := range values() {
			want := Sum(a.Kind, b.Kind)
			for _, call := range []func(a, b value.Value) (value.Value, bool){Plus, Minus} {
				if v, ok := call(a, b); ok && (v.Kind != want || value.Check(v) != api.OK) || !ok && want == value.Real {
					t.Fatalf("of %#v and %#v: %#v, %t, not of kind %d", a, b, v, ok, want)
				}
			}
		}
	}
}

// P5.5

func TestEachTestIsWhatLtEqAndGtSayOfIt(t *testing.T) {
	for _, l := range [][]value.Value{numbers(), texts()} {
		for _, a := range l {
			for _, b := range l {
				lt, eq, gt := Holds(Lt, a, b), Holds(Eq, a, b), Holds(Gt, a, b)
				if one := lt && !eq && !gt || !lt && eq && !gt || !lt && !eq && gt; !one {
					t.Fatalf("of %#v and %#v: less %t, equal %t, greater %t", a, b, lt, eq, gt)
				}
				if Holds(Ne, a, b) == eq || Holds(Le, a, b) != (lt || eq) || Holds(Ge, a, b) != (gt || eq) {
					t.Fatalf("of %#v and %#v: unequal %t, at most %t, at least %t", a, b, Holds(Ne, a, b), Holds(Le, a, b), Holds(Ge, a, b))
				}
			}
		}
	}
}

func TestTestsTurnedRound(t *testing.T) {
	turned := []uint8{0, Eq, Ne, Gt, Ge, Lt, Le}
	for _, a := range values() {
		for _, b := range values() {
			for _, op := range six {
				if Holds(op, a, b) != Holds(turned[op], b, a) {
					t.Fatalf("Holds(%d, %#v, %#v) = %t, turned round not", op, a, b, Holds(op, a, b))
				}
			}
		}
	}
}
