package real

import (
	"math"
	"math/big"
	"testing"

	"telltale/api"
)

// Doubles by their bits.
const (
	null     uint64 = 0x0000000000000000
	minus0   uint64 = 0x8000000000000000
	least    uint64 = 0x0000000000000001
	tinyMax  uint64 = 0x000fffffffffffff
	plainMin uint64 = 0x0010000000000000
	half     uint64 = 0x3fe0000000000000
	one      uint64 = 0x3ff0000000000000
	two      uint64 = 0x4000000000000000
	three    uint64 = 0x4008000000000000
	two53    uint64 = 0x4340000000000000
	two62    uint64 = 0x43d0000000000000
	two63    uint64 = 0x43e0000000000000
	two64    uint64 = 0x43f0000000000000
	two970   uint64 = 0x7c90000000000000
	greatest uint64 = 0x7fefffffffffffff
	plusInf  uint64 = 0x7ff0000000000000
	theClean uint64 = 0x7ff8000000000000
	below    uint64 = 0x8000000000000000 // the sign
)

// noNumbers are bits of what is no number: quiet ones and others, with a sign and without.
var noNumbers = []uint64{
	0x7ff8000000000000, 0xfff8000000000000, 0x7ff0000000000001, 0xfff0000000000001, 0x7ff4000000000000, 0xfff4000000000000,
	0x7ff8000000000001, 0xfff8000000000001, 0x7fffffffffffffff, 0xffffffffffffffff, 0x7ff7ffffffffffff, 0xfff7ffffffffffff,
}

// rising are doubles from 0 on, the lesser one first.
var rising = []uint64{
	null, least, 2, 0x0008000000000000, tinyMax - 1, tinyMax, plainMin, plainMin + 1, 0x0020000000000000,
	0x3c90000000000000, half - 1, half, half + 1, one - 1, one, one + 1, 0x3ff8000000000000, two - 1, two, 0x4004000000000000, three,
	two53 - 1, two53, two53 + 1, two62 - 1, two62, two62 + 1, two63 - 1, two63, two63 + 1, two64, two970 - 1, two970, greatest - 1, greatest, plusInf,
}

// numbers are the rising ones with either sign, in order, with both zeros.
func numbers() []uint64 {
	var l []uint64
	for i := range rising {
		l = append(l, rising[len(rising)-1-i]|below)
	}
	return append(l, rising...)
}

// strewn are n bits without a rule to the eye, with exponents near to one another in every other one.
func strewn(n int) []uint64 {
	l := make([]uint64, n)
	u := uint64(88172645463325252)
	for i := range l {
		u ^= u << 13
		u ^= u >> 7
		u ^= u << 17
		l[i] = u
		if i%2 == 1 {
			l[i] = u&^(0x7c0<<52) | 0x400<<52
		}
	}
	return l
}

// mixed are doubles of all kinds, few enough for each to be held against each.
func mixed() []uint64 {
	l := append(numbers(), noNumbers...)
	return append(l, strewn(200)...)
}

// doubles are all of those that tests go through one by one.
func doubles() []uint64 {
	l := mixed()
	for _, n := range wholes() {
		l = append(l, OfInt(n), OfInt(n)+1, OfInt(n)-1)
	}
	return l
}

// wholes are whole numbers about each power of two, and about what lies between two doubles.
func wholes() []int {
	l := []int{0, math.MaxInt, math.MinInt, math.MinInt + 1, 1000000007, 6004799503160661}
	for i := range 63 {
		p := 1 << i
		for _, n := range []int{p - 1, p, p + 1, p + p/2, p + p>>53, p + p>>53 + 1, p + p>>53 - 1, p - p>>54, p - p>>53} {
			l = append(l, n, -n)
		}
	}
	return l
}

// parts tells a double's bits apart: the highest one, the next eleven, the others.
func parts(u uint64) (negative bool, exponent int, fraction uint64) {
	return u>>63 == 1, int(u >> 52 & 0x7ff), u & (1<<52 - 1)
}

// exact tells the number that bits are, as the document's words say it, if it is one that is not infinite.
func exact(u uint64) (*big.Rat, bool) {
	negative, e, f := parts(u)
	if e == 2047 {
		return nil, false
	}
	shift := e - 1075
	if e == 0 {
		shift = -1074
	} else {
		f += 1 << 52
	}
	n := new(big.Int).SetUint64(f)
	if negative {
		n.Neg(n)
	}
	r := new(big.Rat).SetInt(n)
	p := new(big.Rat).SetInt(new(big.Int).Lsh(big.NewInt(1), uint(max(shift, -shift))))
	if shift < 0 {
		return r.Quo(r, p), true
	}
	return r.Mul(r, p), true
}

// rounded tells the double that is nearest to r, which is not 0: of two as near the even one.
func rounded(r *big.Rat) uint64 {
	var sign uint64
	if r.Sign() < 0 {
		sign = below
	}
	r = new(big.Rat).Abs(r)
	lo, hi := uint64(0), plusInf
	for hi-lo > 1 {
		mid := lo + (hi-lo)/2
		if x, _ := exact(mid); x.Cmp(r) <= 0 {
			lo = mid
		} else {
			hi = mid
		}
	}
	low, _ := exact(lo)
	high, finite := exact(hi)
	if !finite {
		high = new(big.Rat).SetInt(new(big.Int).Lsh(big.NewInt(1), 1024))
	}
	twice := new(big.Rat).Add(r, r)
	switch twice.Cmp(new(big.Rat).Add(low, high)) {
	case -1:
		return lo | sign
	case 1:
		return hi | sign
	}
	return lo + lo&1 | sign
}

// isNan tells whether bits are no number, as the document's words say it.
func isNan(u uint64) bool {
	_, e, f := parts(u)
	return e == 2047 && f != 0
}

// P3.1

func TestKind(t *testing.T) {
	for _, x := range []struct {
		u    uint64
		kind uint8
	}{
		{null, Zero}, {least, Tiny}, {2, Tiny}, {1 << 51, Tiny}, {tinyMax, Tiny}, {plainMin, Plain}, {plainMin + 1, Plain},
		{half, Plain}, {one, Plain}, {three, Plain}, {two62, Plain}, {greatest, Plain}, {0x7fe0000000000000, Plain}, {plusInf, Inf},
		{0x7ff0000000000001, Nan}, {0x7ff4000000000000, Nan}, {theClean, Nan}, {theClean + 1, Nan}, {0x7fffffffffffffff, Nan},
	} {
		if Kind(x.u) != x.kind || Kind(x.u|below) != x.kind {
			t.Errorf("Kind(%x) = %d, with a sign %d, not %d", x.u, Kind(x.u), Kind(x.u|below), x.kind)
		}
	}
	if Zero != 1 || Tiny != 2 || Plain != 3 || Inf != 4 || Nan != 5 {
		t.Error(Zero, Tiny, Plain, Inf, Nan)
	}
}

func TestKindByItsParts(t *testing.T) {
	for _, u := range doubles() {
		_, e, f := parts(u)
		want := Plain
		switch {
		case e == 0 && f == 0:
			want = Zero
		case e == 0:
			want = Tiny
		case e == 2047 && f == 0:
			want = Inf
		case e == 2047:
			want = Nan
		}
		if Kind(u) != want {
			t.Errorf("Kind(%x) = %d, not %d", u, Kind(u), want)
		}
	}
}

func TestCleanOfWhatIsNoNumber(t *testing.T) {
	for _, u := range noNumbers {
		if Clean(u) != theClean {
			t.Errorf("Clean(%x) = %x", u, Clean(u))
		}
	}
}

func TestCleanLeavesNumbers(t *testing.T) {
	for _, u := range doubles() {
		if !isNan(u) && Clean(u) != u {
			t.Errorf("Clean(%x) = %x", u, Clean(u))
		}
	}
}

// P3.2

func TestRank(t *testing.T) {
	for _, x := range []struct{ u, rank uint64 }{
		{plusInf | below, 0x000fffffffffffff},
		{greatest | below, 0x0010000000000000},
		{one | below, 0x400fffffffffffff},
		{least | below, 0x7ffffffffffffffe},
		{minus0, 0x7fffffffffffffff},
		{null, 0x8000000000000000},
		{least, 0x8000000000000001},
		{one, 0xbff0000000000000},
		{greatest, 0xffefffffffffffff},
		{plusInf, 0xfff0000000000000},
	} {
		if Rank(x.u) != x.rank {
			t.Errorf("Rank(%x) = %x, not %x", x.u, Rank(x.u), x.rank)
		}
	}
	for _, u := range noNumbers {
		if Rank(u) != 0xfff8000000000000 {
			t.Errorf("Rank(%x) = %x", u, Rank(u))
		}
	}
}

func TestRanksRise(t *testing.T) {
	l := numbers()
	for i, u := range l[1:] {
		if Rank(l[i]) >= Rank(u) {
			t.Errorf("Rank(%x) = %x, Rank(%x) = %x", l[i], Rank(l[i]), u, Rank(u))
		}
	}
	if last := l[len(l)-1]; Rank(last) >= Rank(theClean) {
		t.Errorf("Rank(%x) = %x, behind what is no number", last, Rank(last))
	}
}

// P3.3

func TestLessAndEqual(t *testing.T) {
	for _, x := range []struct {
		a, b        uint64
		less, equal bool
	}{
		{null, minus0, false, true}, {minus0, null, false, true}, {minus0, minus0, false, true}, {null, null, false, true},
		{null, least, true, false}, {minus0, least, true, false}, {least | below, null, true, false}, {least | below, minus0, true, false},
		{one, two, true, false}, {two, one, false, false}, {one, one, false, true}, {one, one + 1, true, false},
		{two | below, one | below, true, false}, {one | below, two | below, false, false}, {one | below, one, true, false},
		{greatest, plusInf, true, false}, {plusInf, greatest, false, false}, {plusInf, plusInf, false, true},
		{plusInf | below, greatest | below, true, false}, {plusInf | below, plusInf | below, false, true}, {plusInf | below, plusInf, true, false},
	} {
		if Less(x.a, x.b) != x.less || Equal(x.a, x.b) != x.equal {
			t.Errorf("of %x and %x: less %t, equal %t", x.a, x.b, Less(x.a, x.b), Equal(x.a, x.b))
		}
	}
}

func TestWhatIsNoNumberIsNeitherLessNorEqual(t *testing.T) {
	for _, u := range noNumbers {
		for _, v := range doubles() {
			if Less(u, v) || Less(v, u) || Equal(u, v) || Equal(v, u) {
				t.Errorf("%x and %x: %t %t %t %t", u, v, Less(u, v), Less(v, u), Equal(u, v), Equal(v, u))
			}
		}
		if Less(u, u) || Equal(u, u) {
			t.Errorf("%x and itself: %t %t", u, Less(u, u), Equal(u, u))
		}
	}
}

func TestLessAndEqualAsNumbers(t *testing.T) {
	l := mixed()
	for _, a := range l {
		x, ok := exact(a)
		if !ok {
			continue
		}
		for _, b := range l {
			y, ok := exact(b)
			if !ok {
				continue
			}
			if c := x.Cmp(y); Less(a, b) != (c < 0) || Equal(a, b) != (c == 0) {
				t.Fatalf("of %x and %x: less %t, equal %t", a, b, Less(a, b), Equal(a, b))
			}
		}
	}
}

// P3.4

func TestAdd(t *testing.T) {
	for _, x := range []struct{ a, b, sum uint64 }{
		{one, one, two}, {one, two, three}, {two, one | below, one}, {half, half, one}, {null, one, one}, {minus0, one, one}, {one | below, three, two},
		// A sum that is exactly 0.
		{null, null, null}, {null, minus0, null}, {minus0, null, null}, {minus0, minus0, minus0},
		{one, one | below, null}, {one | below, one, null}, {least, least | below, null}, {greatest, greatest | below, null},
		// The tiny ones.
		{least, least, 2}, {tinyMax, least, plainMin}, {plainMin, least | below, tinyMax}, {least, minus0, least}, {plainMin, plainMin, 0x0020000000000000},
		// Halves go to the even one.
		{two53, one, two53}, {two53 + 1, one, two53 + 2}, {two53, two, two53 + 1}, {two53, three, two53 + 2}, {two53, one + 1, two53 + 1}, {two53, one - 1, two53},
		{two53 | below, one | below, two53 | below}, {one, 0x3ca0000000000000, one}, {one, 0x3ca0000000000001, one + 1}, {one + 1, 0x3ca0000000000000, one + 2},
		// What is too great is infinite from 2^1024 - 2^970 on.
		{greatest, two970, plusInf}, {greatest, two970 - 1, greatest}, {greatest, greatest, plusInf}, {greatest, one, greatest},
		{greatest | below, two970 | below, plusInf | below}, {greatest | below, (two970 - 1) | below, greatest | below}, {0x7fe0000000000000, 0x7fe0000000000000, plusInf},
		// The infinite ones.
		{plusInf, plusInf, plusInf}, {plusInf | below, plusInf | below, plusInf | below}, {plusInf, plusInf | below, theClean}, {plusInf | below, plusInf, theClean},
		{plusInf, one, plusInf}, {plusInf, greatest | below, plusInf}, {plusInf | below, greatest, plusInf | below}, {minus0, plusInf, plusInf},
	} {
		if Add(x.a, x.b) != x.sum || Add(x.b, x.a) != x.sum {
			t.Errorf("Add(%x, %x) = %x, turned round %x, not %x", x.a, x.b, Add(x.a, x.b), Add(x.b, x.a), x.sum)
		}
	}
}

func TestAddWithWhatIsNoNumber(t *testing.T) {
	for _, u := range noNumbers {
		for _, v := range doubles() {
			if Add(u, v) != theClean || Add(v, u) != theClean {
				t.Errorf("Add of %x and %x: %x, %x", u, v, Add(u, v), Add(v, u))
			}
		}
	}
}

func TestAddIsTheNearest(t *testing.T) {
	l := append(numbers(), strewn(120)...)
	for i, a := range l {
		x, ok := exact(a)
		if !ok {
			continue
		}
		for _, b := range l[:i+1] {
			y, ok := exact(b)
			if !ok {
				continue
			}
			sum := new(big.Rat).Add(x, y)
			if sum.Sign() == 0 {
				continue
			}
			if want := rounded(sum); Add(a, b) != want {
				t.Fatalf("Add(%x, %x) = %x, not %x", a, b, Add(a, b), want)
			}
		}
	}
}

func TestNeg(t *testing.T) {
	for _, u := range doubles() {
		want := u ^ below
		if isNan(u) {
			want = theClean
		}
		if Neg(u) != want {
			t.Errorf("Neg(%x) = %x, not %x", u, Neg(u), want)
		}
	}
}

// P3.5

func TestOfInt(t *testing.T) {
	for _, x := range []struct {
		n int
		u uint64
	}{
		{0, null}, {1, one}, {2, two}, {3, three}, {-1, one | below}, {-3, three | below},
		{1<<53 - 1, two53 - 1}, {1 << 53, two53}, {1<<53 + 1, two53}, {1<<53 + 2, two53 + 1}, {1<<53 + 3, two53 + 2}, {-1<<53 - 1, two53 | below},
		{api.MaxNum, two62}, {-api.MaxNum, two62 | below}, {api.MaxNum - 1, two62}, {api.MaxNum - 256, two62}, {api.MaxNum - 257, two62 - 1},
		{api.MaxNum + 512, two62}, {api.MaxNum + 513, two62 + 1}, {math.MaxInt, two63}, {math.MinInt, two63 | below}, {math.MinInt + 1, two63 | below},
	} {
		if OfInt(x.n) != x.u {
			t.Errorf("OfInt(%d) = %x, not %x", x.n, OfInt(x.n), x.u)
		}
	}
}

func TestOfIntIsTheNearest(t *testing.T) {
	for _, n := range wholes() {
		if n == 0 {
			continue
		}
		if want := rounded(new(big.Rat).SetInt64(int64(n))); OfInt(n) != want {
			t.Errorf("OfInt(%d) = %x, not %x", n, OfInt(n), want)
		}
	}
}

func TestWhole(t *testing.T) {
	for _, x := range []struct {
		u  uint64
		n  int
		ok bool
	}{
		{null, 0, true}, {minus0, 0, true}, {one, 1, true}, {one | below, -1, true}, {three, 3, true}, {two53, 1 << 53, true}, {two53 + 1, 1<<53 + 2, true},
		{two62, api.MaxNum, true}, {two62 | below, -api.MaxNum, true}, {two62 - 1, api.MaxNum - 512, true}, {(two62 - 1) | below, 512 - api.MaxNum, true},
		{two62 + 1, 0, false}, {(two62 + 1) | below, 0, false}, {two63, 0, false}, {two63 | below, 0, false}, {two64, 0, false}, {greatest, 0, false},
		{half, 0, false}, {half | below, 0, false}, {one + 1, 0, false}, {one - 1, 0, false}, {0x4004000000000000, 0, false}, {two53 - 1, 1<<53 - 1, true},
		{0x432fffffffffffff, 0, false}, {least, 0, false}, {least | below, 0, false}, {tinyMax, 0, false}, {plainMin, 0, false},
		{plusInf, 0, false}, {plusInf | below, 0, false}, {theClean, 0, false},
	} {
		if n, ok := Whole(x.u); n != x.n || ok != x.ok {
			t.Errorf("Whole(%x) = %d, %t", x.u, n, ok)
		}
	}
}

func TestWholeAsANumber(t *testing.T) {
	for _, u := range doubles() {
		want, wantOK := 0, false
		if x, ok := exact(u); ok && x.IsInt() && x.Num().CmpAbs(big.NewInt(api.MaxNum)) <= 0 {
			want, wantOK = int(x.Num().Int64()), true
		}
		if n, ok := Whole(u); n != want || ok != wantOK {
			t.Errorf("Whole(%x) = %d, %t, not %d, %t", u, n, ok, want, wantOK)
		}
	}
}

func TestVersus(t *testing.T) {
	for _, x := range []struct {
		n  int
		u  uint64
		c  int
		ok bool
	}{
		{1<<53 + 1, two53, 1, true}, {1 << 53, two53, 0, true}, {1<<53 - 1, two53, -1, true}, {-1<<53 - 1, two53 | below, -1, true}, {1<<53 + 1, two53 + 1, -1, true},
		{0, null, 0, true}, {0, minus0, 0, true}, {0, least, -1, true}, {0, least | below, 1, true}, {1, minus0, 1, true}, {-1, null, -1, true},
		{1, one, 0, true}, {1, one + 1, -1, true}, {1, one - 1, 1, true}, {-1, (one + 1) | below, 1, true}, {-1, (one - 1) | below, -1, true},
		{0, half, -1, true}, {1, half, 1, true}, {0, half | below, 1, true}, {-1, half | below, -1, true}, {2, 0x4004000000000000, -1, true}, {3, 0x4004000000000000, 1, true},
		{-2, 0xc004000000000000, 1, true}, {-3, 0xc004000000000000, -1, true},
		{api.MaxNum, two62, 0, true}, {api.MaxNum, two62 - 1, 1, true}, {api.MaxNum, two62 + 1, -1, true}, {api.MaxNum - 1, two62, -1, true},
		{-api.MaxNum, two62 | below, 0, true}, {-api.MaxNum, (two62 + 1) | below, 1, true}, {-api.MaxNum, (two62 - 1) | below, -1, true},
		{api.MaxNum, two63, -1, true}, {api.MaxNum, greatest, -1, true}, {-api.MaxNum, greatest | below, 1, true}, {0, two64, -1, true}, {0, two64 | below, 1, true},
		{api.MaxNum, plusInf, -1, true}, {-api.MaxNum, plusInf | below, 1, true}, {0, plusInf, -1, true}, {0, plusInf | below, 1, true},
		{api.MaxNum + 1, two62, 0, false}, {-api.MaxNum - 1, two62 | below, 0, false}, {math.MaxInt, null, 0, false}, {math.MinInt, null, 0, false},
		{api.MaxNum + 1, plusInf, 0, false}, {math.MaxInt, theClean, 0, false},
	} {
		if c, ok := Versus(x.n, x.u); c != x.c || ok != x.ok {
			t.Errorf("Versus(%d, %x) = %d, %t, not %d, %t", x.n, x.u, c, ok, x.c, x.ok)
		}
	}
}

func TestVersusWhatIsNoNumber(t *testing.T) {
	for _, u := range noNumbers {
		for _, n := range wholes() {
			if c, ok := Versus(n, u); c != 0 || ok {
				t.Errorf("Versus(%d, %x) = %d, %t", n, u, c, ok)
			}
		}
	}
}

func TestVersusAsNumbers(t *testing.T) {
	for _, u := range doubles() {
		x, ok := exact(u)
		if !ok {
			continue
		}
		for _, n := range wholes() {
			want, wantOK := 0, n >= -api.MaxNum && n <= api.MaxNum
			if wantOK {
				want = new(big.Rat).SetInt64(int64(n)).Cmp(x)
			}
			if c, ok := Versus(n, u); c != want || ok != wantOK {
				t.Fatalf("Versus(%d, %x) = %d, %t, not %d, %t", n, u, c, ok, want, wantOK)
			}
		}
	}
}

// P3.6

func TestTheOrderOfRanksIsThatOfNumbers(t *testing.T) {
	l := mixed()
	for _, a := range l {
		for _, b := range l {
			switch {
			case isNan(a) && isNan(b):
				if Rank(a) != Rank(b) {
					t.Fatalf("%x and %x: no numbers, and not alike", a, b)
				}
			case isNan(b):
				if Rank(a) >= Rank(b) {
					t.Fatalf("%x is not ahead of %x, no number", a, b)
				}
			case Less(a, b):
				if Rank(a) >= Rank(b) {
					t.Fatalf("%x is less than %x, its rank is not", a, b)
				}
			case Equal(a, b) && a != b:
				if (Rank(a) < Rank(b)) != (a == minus0) {
					t.Fatalf("%x and %x: ranks %x, %x", a, b, Rank(a), Rank(b))
				}
			case a == b && Rank(a) != Rank(b):
				t.Fatalf("%x: ranks %x, %x", a, Rank(a), Rank(b))
			}
		}
	}
}

func TestSumsDoNotHangOnTheirOrder(t *testing.T) {
	l := mixed()
	for _, a := range l {
		for _, b := range l {
			if Add(a, b) != Add(b, a) {
				t.Fatalf("Add(%x, %x) = %x, turned round %x", a, b, Add(a, b), Add(b, a))
			}
		}
	}
}

func TestWhatIsWholeIsHeldWithoutRounding(t *testing.T) {
	for _, n := range wholes() {
		u := OfInt(n)
		w, whole := Whole(u)
		c, ok := Versus(n, u)
		if n < -api.MaxNum || n > api.MaxNum {
			if c != 0 || ok {
				t.Errorf("Versus(%d, %x) = %d, %t", n, u, c, ok)
			}
			continue
		}
		// A whole number in the bounds is rounded to none beyond them.
		if !whole || !ok || (c < 0) != (n < w) || (c > 0) != (n > w) {
			t.Errorf("of %d: Whole %d, %t; Versus %d, %t", n, w, whole, c, ok)
		}
		if back := OfInt(w); back != u {
			t.Errorf("of %d: %x, and of its whole one %x", n, u, back)
		}
	}
}
