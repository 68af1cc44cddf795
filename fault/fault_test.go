package fault

import (
	"errors"
	"math"
	"testing"

	"telltale/api"
)

// numbers are those that api names, but OK, and some that have no name.
func numbers() []api.Errno {
	l := []api.Errno{-1, api.ErrTwice + 1, 1000, math.MaxInt, math.MinInt}
	for e := api.ErrNil; e <= api.ErrTwice; e++ {
		l = append(l, e)
	}
	return l
}

var places = []int{0, 1, 2, 3, 599, 600, -1, -7, math.MaxInt, math.MinInt}

// wrap wraps one error, or none.
type wrap struct{ in error }

func (w wrap) Error() string { return "wrap" }
func (w wrap) Unwrap() error { return w.in }

// list wraps several errors; two of them can't be compared.
type list struct {
	name string
	in   []error
}

func (l list) Error() string   { return l.name }
func (l list) Unwrap() []error { return l.in }

// odd is an error that wraps none, and that can't be asked for its text where it is nil.
type odd struct{ text string }

func (o *odd) Error() string { return o.text }

// others are errors that neither are nor wrap a fault or a number; the last ones can't even be asked what they wrap.
func others() []error {
	plain := errors.New("error 4 at 3")
	return []error{
		plain, errors.New(""), wrap{plain}, wrap{wrap{plain}}, wrap{nil}, errors.Join(plain, wrap{plain}),
		list{"none", nil}, list{"nil", []error{nil, nil}}, list{"one", []error{plain}}, &odd{"odd"}, (*odd)(nil), wrap{(*odd)(nil)},
		(*wrap)(nil), (*list)(nil), wrap{(*wrap)(nil)},
	}
}

// wrapped are errors that wrap one, and no other with a number.
func wrapped(err error) []error {
	plain := errors.New("plain")
	return []error{
		wrap{err}, &wrap{err}, wrap{wrap{wrap{err}}}, errors.Join(err), errors.Join(plain, err), errors.Join(err, plain),
		list{"only", []error{err}}, list{"last", []error{plain, nil, wrap{nil}, err}}, wrap{errors.Join(plain, wrap{list{"in", []error{wrap{err}, plain}}})},
	}
}

// isFault tells a test's fault unless an error is a fault itself, of that number and place.
func isFault(t *testing.T, err error, e api.Errno, at int) *Fault {
	t.Helper()
	f, ok := err.(*Fault)
	if !ok || f == nil || f.E != e || f.At != at {
		t.Fatalf("%#v is not the fault %d at %d", err, e, at)
	}
	return f
}

// P9.1

func TestNewOfOKIsNil(t *testing.T) {
	for _, at := range places {
		if err := New(api.OK, at); err != nil {
			t.Errorf("New(OK, %d) = %#v", at, err)
		}
	}
}

func TestNewIsAFaultOfThatNumberAndPlace(t *testing.T) {
	for _, e := range numbers() {
		for _, at := range places {
			isFault(t, New(e, at), e, at)
		}
	}
}

func TestEachFaultIsNew(t *testing.T) {
	a, b := New(api.ErrForm, 3), New(api.ErrForm, 3)
	f := isFault(t, a, api.ErrForm, 3)
	if f == isFault(t, b, api.ErrForm, 3) {
		t.Fatal("two faults are one")
	}
	*f = Fault{api.ErrCut, 9}
	isFault(t, b, api.ErrForm, 3)
	isFault(t, New(api.ErrForm, 3), api.ErrForm, 3)
}

func TestCodeAndAtOfNil(t *testing.T) {
	if Code(nil) != api.OK || At(nil) != 0 {
		t.Error(Code(nil), At(nil))
	}
}

func TestCodeAndAtOfAFault(t *testing.T) {
	for _, e := range numbers() {
		for _, at := range places {
			if err := New(e, at); Code(err) != e || At(err) != at {
				t.Errorf("New(%d, %d): code %d at %d", e, at, Code(err), At(err))
			}
		}
	}
}

func TestCodeAndAtOfAFaultThatIsWrapped(t *testing.T) {
	for _, e := range numbers() {
		for _, at := range places {
			for i, err := range wrapped(New(e, at)) {
				if Code(err) != e || At(err) != at {
					t.Errorf("New(%d, %d), wrapped %d: code %d at %d", e, at, i, Code(err), At(err))
				}
			}
		}
	}
}

func TestCodeAndAtOfAFaultThatIsWrappedDeep(t *testing.T) {
	err := New(api.ErrDeep, 16)
	for range 100000 {
		err = wrap{err}
	}
	if Code(err) != api.ErrDeep || At(err) != 16 {
		t.Error(Code(err), At(err))
	}
}

func TestCodeAndAtOfANumber(t *testing.T) {
	for _, e := range numbers() {
		if Code(e) != e || At(e) != 0 {
			t.Errorf("%d: code %d at %d", e, Code(e), At(e))
		}
		for i, err := range wrapped(e) {
			if Code(err) != e || At(err) != 0 {
				t.Errorf("%d, wrapped %d: code %d at %d", e, i, Code(err), At(err))
			}
		}
	}
}

// says is an error that wraps none, and says of itself which number it is.
type says struct{ e api.Errno }

func (s says) Error() string { return "says" }
func (s says) Is(target error) bool {
	e, ok := target.(api.Errno)
	return ok && e == s.e
}

func TestCodeOfAnErrorThatErrorsIsTellsToBeANumber(t *testing.T) {
	for e := api.ErrNil; e <= api.ErrTwice; e++ {
		if err := (says{e}); Code(err) != e || Code(wrap{err}) != e || At(err) != 0 {
			t.Errorf("%d: code %d, wrapped %d, at %d", e, Code(err), Code(wrap{err}), At(err))
		}
	}
}

func TestCodeOfAFaultIsAheadOfANumber(t *testing.T) {
	for _, e := range numbers() {
		for i, err := range []error{
			errors.Join(e, New(api.ErrDeep, 5)),
			errors.Join(New(api.ErrDeep, 5), e),
			list{"both", []error{wrap{e}, wrap{wrap{New(api.ErrDeep, 5)}}}},
			wrap{errors.Join(wrap{e}, errors.Join(e, wrap{New(api.ErrDeep, 5)}))},
		} {
			if Code(err) != api.ErrDeep || At(err) != 5 {
				t.Errorf("%d, joined %d: code %d at %d", e, i, Code(err), At(err))
			}
		}
	}
}

func TestCodeAndAtAreOfOneFault(t *testing.T) {
	err := errors.Join(wrap{New(api.ErrCut, 8)}, New(api.ErrBig, 2))
	if is := (Fault{Code(err), At(err)}); is != (Fault{api.ErrCut, 8}) && is != (Fault{api.ErrBig, 2}) {
		t.Error(is)
	}
}

func TestCodeAndAtOfOthers(t *testing.T) {
	for i, err := range others() {
		if Code(err) != api.ErrArg || At(err) != 0 {
			t.Errorf("%d: code %d at %d", i, Code(err), At(err))
		}
	}
}

// long wraps another as long as some are left.
type long struct{ left *int }

func (l long) Error() string { return "long" }
func (l long) Unwrap() error {
	*l.left--
	if *l.left < 0 {
		return nil
	}
	return l
}

func TestCodeAndAtOfAnErrorThatGoesOnAndOn(t *testing.T) {
	left := 1 << 26
	if err := (long{&left}); Code(err) != api.ErrArg || At(err) != 0 {
		t.Error(Code(err), At(err))
	}
}

func TestLooksLeaveAFaultAsItIs(t *testing.T) {
	err := New(api.ErrForm, 3)
	Code(err)
	At(err)
	_ = err.Error()
	errors.Unwrap(err)
	Move(err, 4)
	First(err, New(api.ErrCut, 1))
	First(New(api.ErrCut, 1), err)
	isFault(t, err, api.ErrForm, 3)
}

// P9.2

func TestErrorIsNotEmpty(t *testing.T) {
	for _, e := range numbers() {
		for _, at := range places {
			if New(e, at).Error() == "" {
				t.Errorf("New(%d, %d) has no text", e, at)
			}
		}
	}
}

func TestUnwrapIsTheNumber(t *testing.T) {
	for _, e := range numbers() {
		for _, at := range places {
			in := errors.Unwrap(New(e, at))
			if n, ok := in.(api.Errno); !ok || n != e {
				t.Errorf("New(%d, %d) wraps %#v", e, at, in)
			}
		}
	}
}

func TestNilFault(t *testing.T) {
	var f *Fault
	if f.Error() != "" {
		t.Errorf("Error = %q", f.Error())
	}
	if f.Unwrap() != nil {
		t.Errorf("Unwrap = %#v", f.Unwrap())
	}
}

func TestNilFaultHasNoPlace(t *testing.T) {
	var f *Fault
	for _, err := range append(wrapped(f), f) {
		Code(err)
		Move(err, 0)
		First(err, f)
		First(f, err)
		if At(err) != 0 {
			t.Errorf("%#v: at %d", err, At(err))
		}
	}
}

// P9.3

func TestMoveOfNilIsNil(t *testing.T) {
	for _, by := range places {
		if err := Move(nil, by); err != nil {
			t.Errorf("Move(nil, %d) = %#v", by, err)
		}
	}
}

func TestMoveOfAFault(t *testing.T) {
	isFault(t, Move(New(api.ErrForm, 3), 4), api.ErrForm, 7)
	for _, e := range numbers() {
		for _, at := range []int{0, 1, 7, 600, -5} {
			for _, by := range []int{0, 1, 4, 600, 1 << 40, -1, -7, -1 << 40} {
				isFault(t, Move(New(e, at), by), e, at+by)
			}
		}
	}
}

func TestMoveIsANewFault(t *testing.T) {
	for _, by := range []int{0, 1} {
		err := New(api.ErrForm, 3)
		if isFault(t, err, api.ErrForm, 3) == isFault(t, Move(err, by), api.ErrForm, 3+by) {
			t.Errorf("Move by %d answers the fault that it was given", by)
		}
		isFault(t, err, api.ErrForm, 3)
	}
}

func TestMoveGoesOnFromMove(t *testing.T) {
	isFault(t, Move(Move(Move(New(api.ErrCut, 1), 10), 100), -1), api.ErrCut, 110)
}

func TestMoveOfWhatIsWrapped(t *testing.T) {
	for _, e := range numbers() {
		for _, err := range wrapped(New(e, 3)) {
			isFault(t, Move(err, 4), e, 7)
		}
		isFault(t, Move(e, 4), e, 4)
		for _, err := range wrapped(e) {
			isFault(t, Move(err, -4), e, -4)
		}
	}
}

func TestMoveOfOthers(t *testing.T) {
	for _, err := range others() {
		isFault(t, Move(err, 6), api.ErrArg, 6)
		isFault(t, Move(err, 0), api.ErrArg, 0)
	}
}

func TestFirstIsTheOneAhead(t *testing.T) {
	for _, x := range [][2]int{{0, 1}, {3, 4}, {3, 600}, {-1, 0}, {-9, -8}, {-1, 1}, {math.MinInt, math.MaxInt}, {math.MinInt, 0}, {0, math.MaxInt}} {
		for _, e := range numbers() {
			ahead, behind := New(e, x[0]), New(api.ErrForm, x[1])
			if First(ahead, behind) != ahead || First(behind, ahead) != ahead {
				t.Errorf("of %d at %d and a fault at %d", e, x[0], x[1])
			}
		}
	}
}

func TestFirstOfOnePlaceIsA(t *testing.T) {
	for _, at := range places {
		for _, e := range numbers() {
			a, b := New(e, at), New(api.ErrForm, at)
			if First(a, b) != a || First(b, a) != b {
				t.Errorf("of %d and a fault, both at %d", e, at)
			}
		}
	}
}

func TestFirstOfNil(t *testing.T) {
	if err := First(nil, nil); err != nil {
		t.Errorf("%#v", err)
	}
	for _, at := range places {
		if err := New(api.ErrForm, at); First(nil, err) != err || First(err, nil) != err {
			t.Errorf("of a fault at %d and nil", at)
		}
	}
	for _, err := range []error{api.ErrForm, errors.New("plain"), &odd{"odd"}, (*odd)(nil), &wrap{nil}, &wrap{New(api.ErrForm, 3)}} {
		if First(nil, err) != err || First(err, nil) != err {
			t.Errorf("of %#v and nil", err)
		}
	}
}

func TestFirstIsTheErrorItself(t *testing.T) {
	near, far := &wrap{wrap{New(api.ErrForm, 3)}}, errors.Join(New(api.ErrCut, 4))
	if First(near, far) != error(near) || First(far, near) != error(near) {
		t.Error("of a fault that is wrapped at 3, and one at 4")
	}
	if f := New(api.ErrBig, 3); First(near, f) != error(near) || First(f, near) != f {
		t.Error("of a fault that is wrapped and one that is not, both at 3")
	}
}

func TestFirstOfErrorsWithoutAPlace(t *testing.T) {
	for _, err := range []error{api.ErrForm, errors.New("plain"), &wrap{api.ErrForm}, &odd{"odd"}, (*odd)(nil)} {
		ahead, same, behind := New(api.ErrCut, -1), New(api.ErrCut, 0), New(api.ErrCut, 1)
		if First(err, ahead) != ahead || First(ahead, err) != ahead {
			t.Errorf("of %#v and a fault at -1", err)
		}
		if First(err, same) != err || First(same, err) != same {
			t.Errorf("of %#v and a fault at 0", err)
		}
		if First(err, behind) != err || First(behind, err) != err {
			t.Errorf("of %#v and a fault at 1", err)
		}
	}
}

func TestFirstOfErrorsThatCantBeCompared(t *testing.T) {
	for _, x := range []struct {
		a, b int
		name string
	}{{1, 2, "a"}, {2, 1, "b"}, {2, 2, "a"}} {
		a, b := list{"a", []error{New(api.ErrForm, x.a)}}, list{"b", []error{New(api.ErrForm, x.b)}}
		if err := First(a, b); err == nil || err.Error() != x.name {
			t.Errorf("of a at %d and b at %d: %v", x.a, x.b, err)
		}
		if First(a, nil).Error() != "a" || First(nil, b).Error() != "b" {
			t.Error("of one and nil")
		}
	}
}

// P9.4

func TestAFaultIsToldByItsNumberAndByNoOther(t *testing.T) {
	for _, e := range numbers() {
		for _, at := range places {
			for _, err := range append(wrapped(New(e, at)), New(e, at), Move(New(e, at), 1), First(nil, New(e, at))) {
				for _, n := range append(numbers(), api.OK) {
					if errors.Is(err, n) != (n == e) {
						t.Fatalf("a fault %d at %d: %d is told %t", e, at, n, errors.Is(err, n))
					}
				}
			}
		}
	}
}

func TestOthersThatAreMovedAreToldByErrArgAlone(t *testing.T) {
	for _, other := range others() {
		for _, n := range append(numbers(), api.OK) {
			if err := Move(other, 2); errors.Is(err, n) != (n == api.ErrArg) {
				t.Errorf("%#v is told by %d: %t", err, n, errors.Is(err, n))
			}
		}
	}
}

func TestAFaultIsFoundAsAFault(t *testing.T) {
	for _, err := range append(wrapped(New(api.ErrForm, 3)), New(api.ErrForm, 3)) {
		var f *Fault
		if !errors.As(err, &f) {
			t.Fatalf("%#v has no fault", err)
		}
		isFault(t, f, api.ErrForm, 3)
		var e api.Errno
		if !errors.As(err, &e) || e != api.ErrForm {
			t.Errorf("%#v has the number %d", err, e)
		}
	}
}
