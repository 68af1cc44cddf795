package event

import (
	"math"
	"slices"
	"strings"
	"testing"

	"telltale/api"
	"telltale/schema"
	"telltale/value"
)

const (
	least    = math.MinInt
	greatest = math.MaxInt
)

// types tells a schema with as many types as may be: one without fields, one of each kind, one of all, and one as great
// as may be.
func types() []schema.Type {
	return []schema.Type{
		{Name: "none"},
		{Name: "whole", Fields: []schema.Field{{Name: "n", Kind: value.Int}}},
		{Name: "flag", Fields: []schema.Field{{Name: "on", Kind: value.Flag}}},
		{Name: "real", Fields: []schema.Field{{Name: "x", Kind: value.Real}}},
		{Name: "text", Fields: []schema.Field{{Name: "k", Kind: value.Text}}},
		{Name: "all", Fields: []schema.Field{{Name: "k", Kind: value.Text}, {Name: "x", Kind: value.Real}, {Name: "on", Kind: value.Flag}, {Name: "n", Kind: value.Int}}},
		{Name: "six", Fields: []schema.Field{{Name: "a", Kind: 1}, {Name: "b", Kind: 1}, {Name: "c", Kind: 1}, {Name: "d", Kind: 4}, {Name: "e", Kind: 4}, {Name: "f", Kind: 4}}},
		{Name: "last"},
	}
}

// wrongTypes are types that may not be, each for another reason, though the events of right are theirs.
func wrongTypes() [][]schema.Type {
	var l [][]schema.Type
	for _, change := range []func(t []schema.Type) []schema.Type{
		func(t []schema.Type) []schema.Type { return append(t, schema.Type{Name: "ninth"}) },
		func(t []schema.Type) []schema.Type { t[7].Name = "none"; return t },
		func(t []schema.Type) []schema.Type { t[7].Name = "Last"; return t },
		func(t []schema.Type) []schema.Type { t[7].Name = "any"; return t },
		func(t []schema.Type) []schema.Type { t[7].Name = ""; return t },
		func(t []schema.Type) []schema.Type {
			t[7].Fields = []schema.Field{{Name: "a", Kind: 5}}
			return t
		},
		func(t []schema.Type) []schema.Type {
			t[7].Fields = []schema.Field{{Name: "a", Kind: 1}, {Name: "a", Kind: 1}}
			return t
		},
		func(t []schema.Type) []schema.Type {
			t[7].Fields = append(t[6].Fields[:6:6], schema.Field{Name: "g", Kind: 1})
			return t
		},
		func(t []schema.Type) []schema.Type {
			t[7].Fields = []schema.Field{{Name: "by", Kind: 1}}
			return t
		},
	} {
		l = append(l, change(types()))
	}
	return l
}

// at tells an event of those numbers, of the type without fields.
func at(time, source, seq int) Event {
	return Event{Time: time, Source: source, Seq: seq, Type: "none"}
}

// of tells an event of a type.
func of(name string, vals ...value.Value) Event {
	return Event{Time: 5, Source: 0, Seq: 1, Type: name, Vals: vals}
}

func whole(n int) value.Value     { return value.Value{Kind: value.Int, N: n} }
func flag(n int) value.Value      { return value.Value{Kind: value.Flag, N: n} }
func double(u uint64) value.Value { return value.Value{Kind: value.Real, Bits: u} }
func text(s string) value.Value   { return value.Value{Kind: value.Text, Text: s} }
func letters(count int) string    { return strings.Repeat("x", count) }
func copied(e Event) Event        { e.Vals = append([]value.Value(nil), e.Vals...); return e }
func isNone(e Event) bool         { return e.ID() == ID{} && e.Type == "" && len(e.Vals) == 0 }

const (
	one   = 0x3ff0000000000000
	minus = 1 << 63 // the sign of -0
	clean = 0x7ff8000000000000
)

// right are events that may be, each unlike the others, and their bytes.
var right = []struct {
	e Event
	s string
}{
	{of("none"), "\x05\x00\x01\x00"},
	{at(0, 0, 0), "\x00\x00\x00\x00"},
	{at(1, 0, 0), "\x01\x00\x00\x00"},
	{at(0, 1, 0), "\x00\x01\x00\x00"},
	{at(0, 0, 1), "\x00\x00\x01\x00"},
	{at(1, 2, 3), "\x01\x02\x03\x00"},
	{at(127, 0, 0), "\x7f\x00\x00\x00"},
	{at(128, 0, 127), "\x80\x01\x00\x7f\x00"},
	{at(300, 3, 300), "\xac\x02\x03\xac\x02\x00"},
	{at(api.MaxTime, 0, 0), "\x80\x80\x80\x80\x80\x20\x00\x00\x00"},
	{at(0, api.MaxSources-1, 0), "\x00\x0f\x00\x00"},
	{at(0, 0, api.MaxSeq), "\x00\x00\x80\x80\x80\x80\x80\x20\x00"},
	{at(api.MaxTime-1, 15, api.MaxSeq-1), "\xff\xff\xff\xff\xff\x1f\x0f\xff\xff\xff\xff\xff\x1f\x00"},
	{at(api.MaxTime, 15, api.MaxSeq), "\x80\x80\x80\x80\x80\x20\x0f\x80\x80\x80\x80\x80\x20\x00"},
	{of("last"), "\x05\x00\x01\x07"},
	{of("whole", whole(0)), "\x05\x00\x01\x01\x01\x00"},
	{of("whole", whole(-3)), "\x05\x00\x01\x01\x01\x05"},
	{of("whole", whole(150)), "\x05\x00\x01\x01\x01\xac\x02"},
	{of("whole", whole(api.MaxNum)), "\x05\x00\x01\x01\x01\x80\x80\x80\x80\x80\x80\x80\x80\x80\x01"},
	{of("whole", whole(-api.MaxNum)), "\x05\x00\x01\x01\x01\xff\xff\xff\xff\xff\xff\xff\xff\x7f"},
	{of("flag", flag(0)), "\x05\x00\x01\x02\x02\x00"},
	{of("flag", flag(1)), "\x05\x00\x01\x02\x02\x01"},
	{of("real", double(0)), "\x05\x00\x01\x03\x03\x00\x00\x00\x00\x00\x00\x00\x00"},
	{of("real", double(minus)), "\x05\x00\x01\x03\x03\x80\x00\x00\x00\x00\x00\x00\x00"},
	{of("real", double(one)), "\x05\x00\x01\x03\x03\x3f\xf0\x00\x00\x00\x00\x00\x00"},
	{of("real", double(clean)), "\x05\x00\x01\x03\x03\x7f\xf8\x00\x00\x00\x00\x00\x00"},
	{of("text", text("")), "\x05\x00\x01\x04\x04\x00"},
	{of("text", text("\x00")), "\x05\x00\x01\x04\x04\x01\x00"},
	{of("text", text("ab")), "\x05\x00\x01\x04\x04\x02ab"},
	{of("text", text(letters(24))), "\x05\x00\x01\x04\x04\x18xxxxxxxxxxxxxxxxxxxxxxxx"},
	{of("all", text("k"), double(one), flag(1), whole(-1)), "\x05\x00\x01\x05\x04\x01k\x03\x3f\xf0\x00\x00\x00\x00\x00\x00\x02\x01\x01\x01"},
	{of("all", text(""), double(0), flag(0), whole(0)), "\x05\x00\x01\x05\x04\x00\x03\x00\x00\x00\x00\x00\x00\x00\x00\x02\x00\x01\x00"},
	{of("six", whole(1), whole(2), whole(3), text("d"), text("e"), text("f")), "\x05\x00\x01\x06\x01\x02\x01\x04\x01\x06\x04\x01d\x04\x01e\x04\x01f"},
	{of("six", whole(2), whole(1), whole(3), text("d"), text("e"), text("f")), "\x05\x00\x01\x06\x01\x04\x01\x02\x01\x06\x04\x01d\x04\x01e\x04\x01f"},
	{of("six", whole(1), whole(2), whole(3), text("de"), text(""), text("f")), "\x05\x00\x01\x06\x01\x02\x01\x04\x01\x06\x04\x02de\x04\x00\x04\x01f"},
}

// P7.1

func TestID(t *testing.T) {
	for _, x := range []struct {
		e    Event
		want ID
	}{
		{Event{}, ID{}},
		{Event{Time: 1, Source: 2, Seq: 3, Type: "none"}, ID{Time: 1, Source: 2, Seq: 3}},
		{Event{Time: 3, Source: 1, Seq: 2, Type: "whole", Vals: []value.Value{whole(9)}}, ID{Time: 3, Source: 1, Seq: 2}},
		{Event{Time: -1, Source: api.MaxSources, Seq: -7, Type: "A"}, ID{Time: -1, Source: api.MaxSources, Seq: -7}},
		{Event{Time: least, Source: greatest, Seq: least}, ID{Time: least, Source: greatest, Seq: least}},
	} {
		if got := x.e.ID(); got != x.want {
			t.Errorf("ID of %v = %v", x.e, got)
		}
	}
}

// rising are numbers, the lesser one first, some so far apart that their difference is no int.
var rising = []int{least, -api.MaxNum, -1, 0, 1, 2, 15, api.MaxTime, greatest}

// inOrder tells all IDs of such numbers, each ahead of the next one.
func inOrder() []ID {
	var l []ID
	for _, time := range rising {
		for _, source := range rising {
			for _, seq := range rising {
				l = append(l, ID{Time: time, Source: source, Seq: seq})
			}
		}
	}
	return l
}

func TestLess(t *testing.T) {
	l := inOrder()
	for i, a := range l {
		for j, b := range l {
			if a.Less(b) != (i < j) {
				t.Fatalf("%v.Less(%v) = %t", a, b, i >= j)
			}
		}
	}
}

func TestLessByTheFirstThatIsUnlike(t *testing.T) {
	for _, x := range []struct {
		a, b ID
		want bool
	}{
		{ID{1, 2, 3}, ID{1, 2, 3}, false}, {ID{}, ID{}, false},
		{ID{1, 9, 9}, ID{2, 0, 0}, true}, {ID{2, 0, 0}, ID{1, 9, 9}, false},
		{ID{1, 2, 9}, ID{1, 3, 0}, true}, {ID{1, 3, 0}, ID{1, 2, 9}, false},
		{ID{1, 2, 3}, ID{1, 2, 4}, true}, {ID{1, 2, 4}, ID{1, 2, 3}, false},
		{ID{1, 9, 0}, ID{2, 0, 9}, true}, {ID{1, 0, 9}, ID{1, 9, 0}, true},
	} {
		if got := x.a.Less(x.b); got != x.want {
			t.Errorf("%v.Less(%v) = %t", x.a, x.b, got)
		}
	}
}

// P7.2

func TestCheckOfWhatMayBe(t *testing.T) {
	for _, x := range right {
		if e := Check(types(), x.e); e != api.OK {
			t.Errorf("Check(%v) = %v", x.e, e)
		}
	}
	if e := Check(types(), Event{Type: "none", Vals: []value.Value{}}); e != api.OK {
		t.Error(e)
	}
}

// refused is an event that may not be, and the error that it is answered by.
type refused struct {
	e    Event
	want api.Errno
}

// wrong are events that may not be, of types.
func wrong() []refused {
	long := text(letters(25))
	l := []refused{
		{at(-1, 0, 0), api.ErrRange}, {at(api.MaxTime+1, 0, 0), api.ErrRange}, {at(least, 0, 0), api.ErrRange}, {at(greatest, 0, 0), api.ErrRange},
		{at(0, -1, 0), api.ErrRange}, {at(0, api.MaxSources, 0), api.ErrRange}, {at(0, least, 0), api.ErrRange}, {at(0, greatest, 0), api.ErrRange},
		{at(0, 0, -1), api.ErrRange}, {at(0, 0, api.MaxSeq+1), api.ErrRange}, {at(0, 0, least), api.ErrRange}, {at(0, 0, greatest), api.ErrRange},
		{of(""), api.ErrNone}, {of("non"), api.ErrNone}, {of("None"), api.ErrNone}, {of("nones"), api.ErrNone}, {of("any"), api.ErrNone}, {of(letters(1 << 16)), api.ErrNone},
		{of("none", whole(0)), api.ErrLong}, {of("whole"), api.ErrLong}, {of("whole", whole(0), whole(0)), api.ErrLong}, {of("all", text(""), double(0), flag(0)), api.ErrLong},
		{of("six", make([]value.Value, 7)...), api.ErrLong}, {of("six", make([]value.Value, 6)...), api.ErrKind},
		{of("whole", flag(1)), api.ErrType}, {of("flag", whole(1)), api.ErrType}, {of("real", text("")), api.ErrType}, {of("text", double(0)), api.ErrType},
		{of("whole", value.Value{}), api.ErrKind}, {of("text", value.Value{Kind: 5}), api.ErrKind},
		{of("whole", whole(api.MaxNum+1)), api.ErrRange}, {of("whole", whole(-api.MaxNum-1)), api.ErrRange}, {of("flag", flag(2)), api.ErrRange}, {of("flag", flag(-1)), api.ErrRange},
		{of("real", double(clean+1)), api.ErrForm}, {of("real", double(math.MaxUint64)), api.ErrForm}, {of("text", long), api.ErrLong},
		{of("whole", value.Value{Kind: value.Int, Bits: 1}), api.ErrArg}, {of("text", value.Value{Kind: value.Text, N: 1}), api.ErrArg},
		// Value by value: each one's Check ahead of its kind.
		{of("all", text(""), double(0), flag(0), flag(2)), api.ErrRange}, {of("all", text(""), double(0), whole(0), flag(2)), api.ErrType}, {of("all", long, double(0), whole(0), whole(0)), api.ErrLong},
		// The range ahead of the type, the type ahead of the values.
		{Event{Time: -1, Type: "any"}, api.ErrRange}, {Event{Source: api.MaxSources, Type: "", Vals: make([]value.Value, 9)}, api.ErrRange},
		{Event{Seq: api.MaxSeq + 1, Type: "whole", Vals: []value.Value{flag(1)}}, api.ErrRange}, {of("any", make([]value.Value, 9)...), api.ErrNone}, {of("", long), api.ErrNone},
	}
	return l
}

func TestCheckOfWhatMayNotBe(t *testing.T) {
	for _, x := range wrong() {
		if e := Check(types(), x.e); e != x.want {
			t.Errorf("Check(%.80v) = %v, not %v", x.e, e, x.want)
		}
	}
}

func TestCheckOfEachNumber(t *testing.T) {
	for _, x := range []struct {
		n      int
		of     func(n int) Event
		is     bool
		number string
	}{
		{0, func(n int) Event { return at(n, 1, 1) }, true, "Time"}, {api.MaxTime, func(n int) Event { return at(n, 1, 1) }, true, "Time"},
		{-1, func(n int) Event { return at(n, 1, 1) }, false, "Time"}, {api.MaxTime + 1, func(n int) Event { return at(n, 1, 1) }, false, "Time"},
		{0, func(n int) Event { return at(1, n, 1) }, true, "Source"}, {api.MaxSources - 1, func(n int) Event { return at(1, n, 1) }, true, "Source"},
		{-1, func(n int) Event { return at(1, n, 1) }, false, "Source"}, {api.MaxSources, func(n int) Event { return at(1, n, 1) }, false, "Source"},
		{0, func(n int) Event { return at(1, 1, n) }, true, "Seq"}, {api.MaxSeq, func(n int) Event { return at(1, 1, n) }, true, "Seq"},
		{-1, func(n int) Event { return at(1, 1, n) }, false, "Seq"}, {api.MaxSeq + 1, func(n int) Event { return at(1, 1, n) }, false, "Seq"},
	} {
		if e := Check(types(), x.of(x.n)); (e == api.OK) != x.is || e != api.OK && e != api.ErrRange {
			t.Errorf("%s %d: %v", x.number, x.n, e)
		}
	}
}

func TestCheckOfTypesThatMayNotBe(t *testing.T) {
	for _, l := range wrongTypes() {
		for _, x := range right {
			if e := Check(l, x.e); e != api.ErrArg {
				t.Errorf("Check(%v, %v) = %v", l, x.e, e)
			}
		}
		// Ahead of all that the event has.
		for _, x := range wrong() {
			if e := Check(l, x.e); e != api.ErrArg {
				t.Errorf("Check(%v, %.80v) = %v", l, x.e, e)
			}
		}
	}
}

func TestCheckOfNoTypes(t *testing.T) {
	for _, l := range [][]schema.Type{nil, {}} {
		if e := Check(l, of("none")); e != api.ErrNone {
			t.Error(e)
		}
		if e := Check(l, Event{}); e != api.ErrNone {
			t.Error(e)
		}
		if e := Check(l, at(-1, 0, 0)); e != api.ErrRange {
			t.Error(e)
		}
	}
}

// P7.3

func TestValue(t *testing.T) {
	all := of("all", text("k"), double(one), flag(1), whole(-1))
	for _, x := range []struct {
		e     Event
		field string
		want  value.Value
		is    bool
	}{
		{all, "k", text("k"), true}, {all, "x", double(one), true}, {all, "on", flag(1), true}, {all, "n", whole(-1), true},
		{of("whole", whole(7)), "n", whole(7), true}, {of("flag", flag(0)), "on", flag(0), true}, {of("text", text("")), "k", text(""), true},
		// No such field of this type, though of others.
		{all, "a", value.Value{}, false}, {all, "", value.Value{}, false}, {all, "N", value.Value{}, false}, {all, "kx", value.Value{}, false}, {all, "all", value.Value{}, false},
		{of("whole", whole(7)), "on", value.Value{}, false}, {of("none"), "n", value.Value{}, false}, {of("none", whole(7)), "n", value.Value{}, false},
		// No such type.
		{of("nobody", whole(7)), "n", value.Value{}, false}, {of("", whole(7)), "n", value.Value{}, false}, {of("Whole", whole(7)), "n", value.Value{}, false}, {Event{}, "", value.Value{}, false},
		// No such value.
		{of("whole"), "n", value.Value{}, false}, {of("all", text("k"), double(one)), "x", double(one), true}, {of("all", text("k"), double(one)), "on", value.Value{}, false},
		{of("all", text("k"), double(one)), "n", value.Value{}, false}, {of("all"), "k", value.Value{}, false},
		// An event that may not be has its values all the same.
		{Event{Time: -1, Source: 99, Seq: -1, Type: "whole", Vals: []value.Value{flag(9), whole(1)}}, "n", flag(9), true},
		{of("all", value.Value{}, value.Value{Kind: 9, N: 1}), "x", value.Value{Kind: 9, N: 1}, true}, {of("all", value.Value{}), "k", value.Value{}, true},
	} {
		if got, is := x.e.Value(types(), x.field); got != x.want || is != x.is {
			t.Errorf("Value(%v, %q) = %v, %t", x.e, x.field, got, is)
		}
	}
}

func TestValueOfTheFirstOfAName(t *testing.T) {
	// These types may not be: of one name twice, with fields of one name twice.
	l := []schema.Type{
		{Name: "t", Fields: []schema.Field{{Name: "a", Kind: 1}, {Name: "b", Kind: 1}, {Name: "a", Kind: 1}, {Name: "", Kind: 9}}},
		{Name: "t", Fields: []schema.Field{{Name: "b", Kind: 1}, {Name: "c", Kind: 1}}},
		{Name: ""},
		{Name: "", Fields: []schema.Field{{Name: "a", Kind: 1}}},
	}
	vals := []value.Value{whole(1), whole(2), whole(3), whole(4)}
	for _, x := range []struct {
		name, field string
		n           int // 0 for none
	}{
		{"t", "a", 1}, {"t", "b", 2}, {"t", "", 4}, {"t", "c", 0}, {"", "a", 0}, {"u", "a", 0},
	} {
		got, is := of(x.name, vals...).Value(l, x.field)
		want := value.Value{}
		if x.n > 0 {
			want = whole(x.n)
		}
		if got != want || is != (x.n > 0) {
			t.Errorf("of %q the value %q: %v, %t", x.name, x.field, got, is)
		}
	}
	for _, none := range [][]schema.Type{nil, {}} {
		if got, is := of("none", vals...).Value(none, "n"); is || got != (value.Value{}) {
			t.Error(got, is)
		}
		if got, is := of("", vals...).Value(none, ""); is || got != (value.Value{}) {
			t.Error(got, is)
		}
	}
	// The second of that name has too few values; the first one's place is not there.
	if got, is := of("t", vals[:1]...).Value(l, "b"); is || got != (value.Value{}) {
		t.Error(got, is)
	}
}

// P7.4

func TestSame(t *testing.T) {
	for i, x := range right {
		for j, y := range right {
			if got := Same(x.e, copied(y.e)); got != (i == j) {
				t.Errorf("Same(%v, %v) = %t", x.e, y.e, got)
			}
		}
	}
	for _, x := range wrong() {
		if !Same(x.e, copied(x.e)) {
			t.Errorf("%.80v is not the same as itself", x.e)
		}
	}
	if !Same(of("none"), Event{Time: 5, Seq: 1, Type: "none", Vals: []value.Value{}}) || !Same(Event{}, Event{}) {
		t.Error("a list that is empty is not none")
	}
}

func TestSameOfEachThingThatIsUnlike(t *testing.T) {
	base := Event{Time: 1, Source: 2, Seq: 3, Type: "all", Vals: []value.Value{text("k"), double(one), flag(1), whole(-1)}}
	for _, change := range []func(e *Event){
		func(e *Event) { e.Time++ }, func(e *Event) { e.Time = -1 }, func(e *Event) { e.Source++ }, func(e *Event) { e.Seq++ },
		func(e *Event) { e.Time, e.Source = 2, 1 }, func(e *Event) { e.Source, e.Seq = 3, 2 }, func(e *Event) { e.Time, e.Seq = 3, 1 },
		func(e *Event) { e.Type = "six" }, func(e *Event) { e.Type = "" }, func(e *Event) { e.Type = "All" },
		func(e *Event) { e.Vals = nil }, func(e *Event) { e.Vals = e.Vals[:3] }, func(e *Event) { e.Vals = e.Vals[1:] }, func(e *Event) { e.Vals = append(e.Vals, value.Value{}) },
		func(e *Event) { e.Vals[0], e.Vals[1] = e.Vals[1], e.Vals[0] },
		func(e *Event) { e.Vals[0].Kind = 0 }, func(e *Event) { e.Vals[0].Text = "K" }, func(e *Event) { e.Vals[0].Text = "" }, func(e *Event) { e.Vals[0].N = 1 }, func(e *Event) { e.Vals[0].Bits = 1 },
		func(e *Event) { e.Vals[1].Bits++ }, func(e *Event) { e.Vals[2].N = 0 }, func(e *Event) { e.Vals[3].N = 1 }, func(e *Event) { e.Vals[3].Kind = value.Flag }, func(e *Event) { e.Vals[3].Text = "x" },
	} {
		e := copied(base)
		change(&e)
		if Same(e, base) || Same(base, e) || !Same(e, copied(e)) {
			t.Errorf("%v and %v", e, base)
		}
	}
	// The two zeros are unlike, and what is no number is the same as itself.
	if Same(of("real", double(0)), of("real", double(minus))) || !Same(of("real", double(clean)), of("real", double(clean))) {
		t.Error("of doubles")
	}
}

// events tells an event of each ID.
func events(ids ...ID) []Event {
	var l []Event
	for _, id := range ids {
		l = append(l, at(id.Time, id.Source, id.Seq))
	}
	return l
}

func TestSorted(t *testing.T) {
	for _, x := range []struct {
		l    []Event
		want bool
	}{
		{nil, true}, {[]Event{}, true}, {events(ID{1, 2, 3}), true}, {[]Event{{}}, true}, {events(inOrder()...), true},
		{events(ID{1, 0, 0}, ID{2, 0, 0}, ID{3, 0, 0}), true}, {events(ID{1, 9, 9}, ID{2, 1, 9}, ID{2, 2, 0}, ID{2, 2, 1}), true},
		// Two of one ID: neither is ahead, whatever else they are.
		{events(ID{1, 2, 3}, ID{1, 2, 3}), false}, {[]Event{of("none"), of("whole", whole(1))}, false}, {events(ID{1, 2, 3}, ID{1, 2, 4}, ID{1, 2, 4}), false},
		{events(ID{1, 2, 3}, ID{1, 2, 3}, ID{1, 2, 4}), false}, {make([]Event, 2), false},
		{events(ID{2, 0, 0}, ID{1, 0, 0}), false}, {events(ID{1, 2, 0}, ID{1, 1, 0}), false}, {events(ID{1, 1, 2}, ID{1, 1, 1}), false},
		{events(ID{1, 0, 0}, ID{3, 0, 0}, ID{2, 0, 0}), false}, {events(ID{2, 0, 0}, ID{1, 0, 0}, ID{3, 0, 0}), false},
		// Ahead of the one next to the next, but not of the next one.
		{events(ID{1, 0, 0}, ID{5, 0, 0}, ID{2, 0, 0}, ID{6, 0, 0}), false},
	} {
		if got := Sorted(x.l); got != x.want {
			t.Errorf("Sorted(%v) = %t", x.l, got)
		}
	}
}

func TestSortedOfEachPairThatIsTurned(t *testing.T) {
	for i := range 6 {
		l := events(inOrder()[100:107]...)
		l[i], l[i+1] = l[i+1], l[i]
		if Sorted(l) {
			t.Errorf("turned at %d", i)
		}
		l[i] = l[i+1]
		if Sorted(l) {
			t.Errorf("twice at %d", i)
		}
	}
}

// mixed tells so many places in a disorder that is always the same.
func mixed(count int) []int {
	l := make([]int, count)
	u := uint64(88172645463325252)
	for i := range l {
		u ^= u << 13
		u ^= u >> 7
		u ^= u << 17
		l[i] = i
		j := int(u % uint64(i+1))
		l[i], l[j] = l[j], l[i]
	}
	return l
}

func TestSort(t *testing.T) {
	ids := inOrder()
	var l []Event
	for _, place := range mixed(len(ids)) {
		l = append(l, events(ids[place])...)
	}
	got := Sort(l)
	if len(got) != len(ids) || !Sorted(got) || Sorted(l) {
		t.Fatalf("%d of %d", len(got), len(ids))
	}
	for i, e := range got {
		if e.ID() != ids[i] || e.Type != "none" {
			t.Errorf("at %d: %v", i, e)
		}
	}
}

// numbered tells events of the given moments, each with its place as its value.
func numbered(times ...int) []Event {
	var l []Event
	for i, time := range times {
		l = append(l, Event{Time: time, Source: 3, Seq: 4, Type: "whole", Vals: []value.Value{whole(i)}})
	}
	return l
}

func TestSortLeavesThoseOfOneIDAsTheyStood(t *testing.T) {
	for count := range 120 {
		for _, moments := range []int{1, 2, 3, 7} {
			var times []int
			for _, place := range mixed(count) {
				times = append(times, place%moments)
			}
			l := numbered(times...)
			got := Sort(l)
			if len(got) != count {
				t.Fatalf("%d events of %d", len(got), count)
			}
			seen := make([]bool, count)
			for i, e := range got {
				n := e.Vals[0].N
				if seen[n] || !Same(e, l[n]) {
					t.Fatalf("of %d: %v", count, got)
				}
				seen[n] = true
				if i > 0 && (got[i-1].Time > e.Time || got[i-1].Time == e.Time && got[i-1].Vals[0].N > n) {
					t.Fatalf("of %d: %v", count, got)
				}
			}
		}
	}
}

func TestSortOfFew(t *testing.T) {
	if len(Sort(nil)) != 0 || len(Sort([]Event{})) != 0 {
		t.Error("of none")
	}
	for _, x := range right {
		if l := Sort([]Event{x.e}); len(l) != 1 || !Same(l[0], x.e) {
			t.Errorf("of %v: %v", x.e, l)
		}
	}
	// Of events that may not be, and of one ID but unlike.
	l := Sort([]Event{{Time: greatest}, {Time: least, Type: "b"}, {Time: least, Type: "a"}, {Type: "any", Vals: []value.Value{{Kind: 9}}}})
	if len(l) != 4 || l[0].Type != "b" || l[1].Type != "a" || l[2].Type != "any" || l[2].Vals[0].Kind != 9 || l[3].Time != greatest {
		t.Error(l)
	}
}

func TestSortTellsANewList(t *testing.T) {
	for _, times := range [][]int{{1}, {1, 2, 3}, {3, 2, 1}, {2, 2, 2}} {
		l := numbered(times...)
		kept := slices.Clone(l)
		got := Sort(l)
		if !slices.EqualFunc(l, kept, Same) {
			t.Errorf("%v was changed to %v", kept, l)
		}
		got = got[:cap(got)]
		for i := range got {
			got[i] = Event{Type: "changed"}
		}
		if !slices.EqualFunc(l, kept, Same) {
			t.Errorf("%v shares memory with its order", kept)
		}
	}
	room := numbered(1, 2, 3)
	_ = append(Sort(room[:0]), Event{Type: "changed"})
	_ = append(Sort(room[:1]), Event{Type: "changed"})
	if !slices.EqualFunc(room, numbered(1, 2, 3), Same) {
		t.Error("the spare room was changed", room)
	}
}

// P7.5

func TestPut(t *testing.T) {
	for _, x := range right {
		for _, ahead := range []string{"", "a", "\x80\xff", letters(300)} {
			b, e := Put([]byte(ahead), types(), x.e)
			if e != api.OK || string(b) != ahead+x.s {
				t.Errorf("Put(%q, %v) = %q, %v", ahead, x.e, b, e)
			}
		}
		if b, e := Put(nil, types(), x.e); e != api.OK || string(b) != x.s {
			t.Errorf("Put(%v) = %q, %v", x.e, b, e)
		}
	}
}

func TestPutOfEachTypesPlace(t *testing.T) {
	var l []schema.Type
	for place := range api.MaxTypes {
		l = append(l, schema.Type{Name: "t" + string(rune('a'+place))})
		for at := range l {
			s := "\x05\x00\x01" + string(rune(at))
			if b, e := Put(nil, l, of(l[at].Name)); e != api.OK || string(b) != s {
				t.Errorf("of type %d of %d: %q, %v", at, len(l), b, e)
			}
			if got, next, e := Take(l, s, 0); e != api.OK || next != 4 || !Same(got, of(l[at].Name)) {
				t.Errorf("of type %d of %d: %v, %d, %v", at, len(l), got, next, e)
			}
		}
	}
}

func TestPutOfWhatMayNotBe(t *testing.T) {
	for _, x := range wrong() {
		for _, ahead := range []string{"", "abc"} {
			if b, e := Put([]byte(ahead), types(), x.e); e != x.want || len(b) != 0 {
				t.Errorf("Put(%q, %.80v) = %q, %v, not %v", ahead, x.e, b, e, x.want)
			}
		}
	}
	for _, l := range wrongTypes() {
		if b, e := Put([]byte("abc"), l, of("none")); e != api.ErrArg || len(b) != 0 {
			t.Errorf("Put of %v = %q, %v", l, b, e)
		}
	}
	if b, e := Put([]byte("abc"), nil, of("none")); e != api.ErrNone || len(b) != 0 {
		t.Error(b, e)
	}
}

func TestPutLaysInANewList(t *testing.T) {
	for _, x := range right {
		room := []byte("abcd" + letters(80))
		b, _ := Put(room[:4], types(), x.e)
		c, _ := Put(room[:4], types(), of("flag", flag(1)))
		if string(room) != "abcd"+letters(80) || string(b) != "abcd"+x.s {
			t.Errorf("the spare room was changed: %q, %q", room, b)
		}
		clear(b[:cap(b)])
		if string(room) != "abcd"+letters(80) || string(c) != "abcd\x05\x00\x01\x02\x02\x01" {
			t.Errorf("memory is shared: %q, %q", room, c)
		}
	}
}

func TestTake(t *testing.T) {
	for _, x := range right {
		for _, ahead := range []string{"", "\x00", "\xff\xff", letters(200)} {
			for _, behind := range []string{"", "\x00", "\x80", "\x01\x02\x03", letters(50)} {
				e, next, err := Take(types(), ahead+x.s+behind, len(ahead))
				if err != api.OK || next != len(ahead)+len(x.s) || !Same(e, x.e) {
					t.Errorf("Take(%q, %d) = %v, %d, %v", ahead+x.s+behind, len(ahead), e, next, err)
				}
				// Same is not asked alone.
				if e.ID() != x.e.ID() || e.Type != x.e.Type || len(e.Vals) != len(x.e.Vals) {
					t.Fatalf("Take(%q) = %v", x.s, e)
				}
				for i, v := range e.Vals {
					if v != x.e.Vals[i] {
						t.Errorf("Take(%q) = %v", x.s, e)
					}
				}
			}
		}
	}
}

// checkRefused reads a text that is no event's, or one's that may not be.
func checkRefused(t *testing.T, l []schema.Type, s string, at int, want api.Errno) {
	t.Helper()
	if e, next, err := Take(l, s, at); err != want || next != 0 || !isNone(e) {
		t.Errorf("Take(%.80q, %d) = %v, %d, %v, not %v", s, at, e, next, err, want)
	}
}

func TestTakeFromOutsideTheText(t *testing.T) {
	for _, s := range []string{"", "\x05\x00\x01\x00", letters(40)} {
		for _, at := range []int{-1, -4, least, len(s) + 1, len(s) + 100, greatest} {
			checkRefused(t, types(), s, at, api.ErrArg)
			checkRefused(t, nil, s, at, api.ErrArg)
		}
		checkRefused(t, types(), s, len(s), api.ErrCut)
	}
}

func TestTakeOfTypesThatMayNotBe(t *testing.T) {
	for _, l := range wrongTypes() {
		// Ahead of all that the text has.
		for _, s := range []string{"", "\x05\x00\x01\x00", "\x80", "\x05\x00\x01\x09", "\x80\x00"} {
			for _, at := range []int{0, -1, len(s), len(s) + 1} {
				checkRefused(t, l, s, at, api.ErrArg)
			}
		}
	}
	for _, none := range [][]schema.Type{nil, {}} {
		checkRefused(t, none, "\x05\x00\x01\x00", 0, api.ErrNone)
		checkRefused(t, none, "\x05\x00\x01", 0, api.ErrCut)
		checkRefused(t, none, "", 0, api.ErrCut)
	}
}

func TestTakeOfATextThatEndsTooSoon(t *testing.T) {
	for _, x := range right {
		for size := range len(x.s) {
			checkRefused(t, types(), x.s[:size], 0, api.ErrCut)
			checkRefused(t, types(), "ab"+x.s[:size], 2, api.ErrCut)
		}
	}
}

func TestTakeOfNumbersThatMayNotBe(t *testing.T) {
	const (
		form = "\x80\x00"                                 // a last byte that says nothing
		much = "\xff\xff\xff\xff\xff\xff\xff\xff\xff\x02" // a tenth byte above 1
		cut  = "\x80"
	)
	for _, ahead := range []string{"", "\x05", "\x05\x00", "\x05\x00\x01"} {
		// Each of the four numbers, ahead of all that is behind it.
		checkRefused(t, types(), ahead+form+"\x00\x00\x00", 0, api.ErrForm)
		checkRefused(t, types(), ahead+much+"\x00\x00\x00", 0, api.ErrRange)
		checkRefused(t, types(), ahead+cut, 0, api.ErrCut)
		checkRefused(t, types(), ahead+form+much, 0, api.ErrForm)
		checkRefused(t, types(), ahead+much+form, 0, api.ErrRange)
	}
	// Zig's error of a later number is ahead of what Check tells of one ahead.
	over := "\x81\x80\x80\x80\x80\x20" // 2^40 + 1
	checkRefused(t, types(), over+"\x00\x00"+form, 0, api.ErrForm)
	checkRefused(t, types(), over+"\x00\x00", 0, api.ErrCut)
	checkRefused(t, types(), over+form+"\x00\x00", 0, api.ErrForm)
	checkRefused(t, types(), over+"\x10\x00\x00", 0, api.ErrRange)
}

func TestTakeOfNumbersOutOfRange(t *testing.T) {
	for _, n := range []string{
		"\x81\x80\x80\x80\x80\x20",                 // 2^40 + 1
		"\xff\xff\xff\xff\xff\xff\xff\xff\x7f",     // 2^63 - 1
		"\x80\x80\x80\x80\x80\x80\x80\x80\x80\x01", // 2^63
		"\x81\x80\x80\x80\x80\x80\x80\x80\x80\x01", // 2^63 + 1
		"\xff\xff\xff\xff\xff\xff\xff\xff\xff\x01", // 2^64 - 1
	} {
		checkRefused(t, types(), n+"\x00\x01\x00", 0, api.ErrRange)
		checkRefused(t, types(), "\x05"+n+"\x01\x00", 0, api.ErrRange)
		checkRefused(t, types(), "\x05\x00"+n+"\x00", 0, api.ErrRange)
		// Of the type's place that is none.
		checkRefused(t, types(), "\x05\x00\x01"+n, 0, api.ErrNone)
		checkRefused(t, types(), n+n+n+n, 0, api.ErrNone)
	}
	checkRefused(t, types(), "\x05\x10\x01\x00", 0, api.ErrRange)
}

func TestTakeOfATypeThatIsNotThere(t *testing.T) {
	for _, place := range []string{"\x08", "\x09", "\x7f", "\x80\x01", "\x80\x02", "\x80\x80\x80\x80\x10"} {
		for _, behind := range []string{"", "\x00", "\x01\x00", "\x09"} {
			checkRefused(t, types(), "\x05\x00\x01"+place+behind, 0, api.ErrNone)
			checkRefused(t, types(), "\x05\x7f\x01"+place+behind, 0, api.ErrNone)
		}
	}
	checkRefused(t, types()[:7], "\x05\x00\x01\x07", 0, api.ErrNone)
	checkRefused(t, types()[:1], "\x05\x00\x01\x01", 0, api.ErrNone)
}

func TestTakeOfValuesThatMayNotBe(t *testing.T) {
	for _, x := range []struct {
		s    string
		want api.Errno
	}{
		{"\x01", api.ErrCut}, {"\x01\x00\x00", api.ErrKind}, {"\x01\x05\x00", api.ErrKind}, {"\x01\xff", api.ErrKind}, {"\x01\x01", api.ErrCut}, {"\x01\x01\x80", api.ErrCut},
		{"\x01\x01\x80\x00", api.ErrForm}, {"\x01\x01\xff\xff\xff\xff\xff\xff\xff\xff\xff\x02", api.ErrRange}, {"\x01\x01\xff\xff\xff\xff\xff\xff\xff\xff\xff\x01", api.ErrRange},
		{"\x02\x02\x02", api.ErrRange}, {"\x03\x03\x7f\xf8\x00\x00\x00\x00\x00\x01", api.ErrForm}, {"\x03\x03\xff\xf8\x00\x00\x00\x00\x00\x00", api.ErrForm},
		{"\x04\x04\x19", api.ErrLong}, {"\x04\x04\x19" + letters(25), api.ErrLong}, {"\x04\x04\x18" + letters(23), api.ErrCut}, {"\x04\x04\x80\x00", api.ErrForm},
		// Of another kind than the field's.
		{"\x01\x02\x01", api.ErrType}, {"\x02\x01\x01", api.ErrType}, {"\x03\x04\x00", api.ErrType}, {"\x04\x03\x00\x00\x00\x00\x00\x00\x00\x00", api.ErrType},
		{"\x05\x04\x01k\x03\x3f\xf0\x00\x00\x00\x00\x00\x00\x02\x01\x02\x01", api.ErrType}, {"\x06\x01\x02\x01\x04\x04\x00\x04\x01d\x04\x01e\x04\x01f", api.ErrType},
		// An error of a later value is ahead of one that is of another kind.
		{"\x06\x02\x01\x01", api.ErrCut}, {"\x06\x02\x01\x01\x04\x01\x06\x04\x01d\x04\x01e\x09\x01f", api.ErrKind}, {"\x06\x02\x01\x02\x02\x01\x06\x04\x01d\x04\x01e\x04\x01f", api.ErrRange},
		{"\x06\x01\x02\x01\x04\x01\x06\x04\x01d\x04\x01e", api.ErrCut}, {"\x06\x01\x02\x01\x04\x01\x06\x04\x01d\x04\x01e\x04\x02f", api.ErrCut},
		// Value by value.
		{"\x06\x09\x02\x01", api.ErrKind}, {"\x06\x01\x02\x01\x80\x00\x09", api.ErrForm},
	} {
		checkRefused(t, types(), "\x05\x00\x01"+x.s, 0, x.want)
		checkRefused(t, types(), "x\x05\x00\x01"+x.s, 1, x.want)
		// The range is told by Check, and so behind a value's own error, but ahead of a kind that does not fit.
		want := x.want
		if want == api.ErrType {
			want = api.ErrRange
		}
		checkRefused(t, types(), "\x05\x10\x01"+x.s, 0, want)
	}
}

func TestWhatIsTakenIsNewMemory(t *testing.T) {
	for _, x := range right {
		first, _, _ := Take(types(), x.s, 0)
		second, _, _ := Take(types(), x.s, 0)
		clear(first.Vals[:cap(first.Vals)])
		if !Same(second, x.e) {
			t.Errorf("two answers share memory: %v", second)
		}
	}
}

// Rule 3

func TestWhatIsHandedInStaysAsItWas(t *testing.T) {
	l := types()
	for _, x := range right {
		e, b := copied(x.e), []byte("abc")
		Check(l, e)
		e.ID()
		e.Value(l, "n")
		Same(e, e)
		Sorted([]Event{e, e})
		Sort([]Event{e, e})
		if _, err := Put(b, l, e); err != api.OK {
			t.Error(err)
		}
		if _, _, err := Take(l, x.s, 0); err != api.OK {
			t.Error(err)
		}
		if !Same(e, x.e) || string(b) != "abc" || !schema.Same(l, types()) {
			t.Error(e, b, l)
		}
	}
}

// P7.6

// many tells events that may be, each unlike the others.
func many() []Event {
	var l []Event
	numbers := []int{0, 1, 127, 128, 16383, 16384, api.MaxTime - 1, api.MaxTime}
	for _, time := range numbers {
		for _, source := range []int{0, 1, 14, 15} {
			for _, seq := range numbers {
				l = append(l, at(time, source, seq), Event{Time: time, Source: source, Seq: seq, Type: "last"})
				for _, n := range []int{0, 1, -1, 64, -64, api.MaxNum, -api.MaxNum} {
					l = append(l, Event{Time: time, Source: source, Seq: seq, Type: "whole", Vals: []value.Value{whole(n)}})
				}
			}
		}
	}
	texts := []string{"", "\x00", "\x00\x00", "\x04\x00", "a", "\x01a", "ab", letters(24)}
	for _, d := range texts {
		for _, e := range texts {
			for _, f := range texts {
				l = append(l, of("six", whole(0), whole(4), whole(-4), text(d), text(e), text(f)))
			}
			for _, u := range []uint64{0, minus, 1, one, one | minus, 0x7ff0000000000000, clean} {
				l = append(l, of("all", text(d), double(u), flag(len(e)%2), whole(int(u>>2))))
			}
		}
	}
	return l
}

func TestWhatIsPutIsTaken(t *testing.T) {
	l := types()
	var line []byte
	var starts []int
	all := many()
	for _, e := range all {
		b, err := Put([]byte("ab"), l, e)
		if err != api.OK {
			t.Fatalf("Put(%v): %v", e, err)
		}
		got, next, err := Take(l, string(b), 2)
		if err != api.OK || next != len(b) || !Same(got, e) {
			t.Fatalf("of %v: %v, %d, %v", e, got, next, err)
		}
		starts = append(starts, len(line))
		line = append(line, b[2:]...)
	}
	// One behind the other, too.
	s := string(line)
	at := 0
	for i, e := range all {
		got, next, err := Take(l, s, at)
		if at != starts[i] || err != api.OK || !Same(got, e) {
			t.Fatalf("of %v: %v, %v", e, got, err)
		}
		at = next
	}
	if at != len(s) {
		t.Error(at)
	}
}

func TestEventsHaveTheSameBytesJustIfTheyAreTheSame(t *testing.T) {
	of := map[string]Event{}
	for _, e := range many() {
		b, _ := Put(nil, types(), e)
		if other, is := of[string(b)]; is != (is && Same(other, e)) {
			t.Fatalf("%v and %v have the bytes %q", e, other, b)
		}
		of[string(b)] = e
		c, _ := Put(nil, types(), copied(e))
		if !slices.Equal(b, c) {
			t.Fatalf("%v has the bytes %q and %q", e, b, c)
		}
	}
}

// checkBytes holds what is taken of a text against the bytes that are put of it. The first text that fails ends the
// test: there are very many.
func checkBytes(t *testing.T, s string) {
	t.Helper()
	for at := range min(len(s), 3) + 1 {
		e, next, err := Take(types(), s, at)
		if err != api.OK {
			if next != 0 || !isNone(e) {
				t.Fatalf("Take(%q, %d) = %v, %d, %v", s, at, e, next, err)
			}
			continue
		}
		b, put := Put(nil, types(), e)
		if next < at || next > len(s) || put != api.OK || string(b) != s[at:next] || Check(types(), e) != api.OK {
			t.Fatalf("Take(%q, %d) = %v, %d, whose bytes are %q, %v", s, at, e, next, b, put)
		}
	}
}

func TestEachTextIsOneEventsBytes(t *testing.T) {
	parts := "\x00\x01\x02\x03\x04\x05\x06\x08\x0f\x80\xff"
	var lay func(s string, more int)
	lay = func(s string, more int) {
		checkBytes(t, s)
		for i := 0; more > 0 && i < len(parts); i++ {
			lay(s+parts[i:i+1], more-1)
		}
	}
	lay("", 5)
}

func TestBytesThatAreChangedAtOnePlace(t *testing.T) {
	for _, x := range right {
		for at := range len(x.s) + 1 {
			for c := range 256 {
				more := string([]byte{byte(c)})
				checkBytes(t, x.s[:at]+more+x.s[at:])
				if at < len(x.s) {
					checkBytes(t, x.s[:at]+more+x.s[at+1:])
				}
			}
			checkBytes(t, x.s[at:])
		}
	}
}

func FuzzTake(f *testing.F) {
	for _, x := range right {
		f.Add(x.s)
	}
	f.Fuzz(checkBytes)
}
