package schema

import (
	"math"
	"regexp"
	"strings"
	"testing"
	"unsafe"

	"telltale/api"
	"telltale/value"
)

var reserved = []string{"within", "by", "and", "or", "not", "any", "next", "strict", "true", "false"}

// longest is a name of as many bytes as may be.
const longest = "a_0123456789"

// named tells types of such names, without fields.
func named(names ...string) []Type {
	var l []Type
	for _, s := range names {
		l = append(l, Type{Name: s})
	}
	return l
}

// ints tells a type with int fields of such names.
func ints(name string, fields ...string) Type {
	t := Type{Name: name}
	for _, s := range fields {
		t.Fields = append(t.Fields, Field{s, value.Int})
	}
	return t
}

// full tells the greatest schema: as many types and fields as may be, and some names as long.
func full() []Type {
	var l []Type
	for at := range api.MaxTypes {
		t := Type{Name: longest[:11] + string(rune('a'+at))}
		for field := range api.MaxFields {
			t.Fields = append(t.Fields, Field{longest[:field+7], uint8(1 + (at+field)%4)})
		}
		l = append(l, t)
	}
	return l
}

// copied tells the same types in memory of their own.
func copied(l []Type) []Type {
	var c []Type
	for _, t := range l {
		c = append(c, Type{t.Name, append([]Field(nil), t.Fields...)})
	}
	return c
}

// right are schemas that may be, each unlike the others, and their texts.
var right = []struct {
	l []Type
	s string
}{
	{nil, ""},
	{named("a"), "a\n"},
	{named("b"), "b\n"},
	{named("a", "b"), "a\nb\n"},
	{named("b", "a"), "b\na\n"},
	{named("ab"), "ab\n"},
	{named("a_", "z9", longest, "t0__"), "a_\nz9\n" + longest + "\nt0__\n"},
	{[]Type{{"buy", []Field{{"price", value.Int}}}}, "buy price:int\n"},
	{[]Type{{"buy", []Field{{"price", value.Flag}}}}, "buy price:flag\n"},
	{[]Type{{"buy", []Field{{"price", value.Real}}}}, "buy price:real\n"},
	{[]Type{{"buy", []Field{{"price", value.Text}}}}, "buy price:text\n"},
	{[]Type{{"t", []Field{{"a", 1}, {"b", 2}, {"c", 3}, {"d", 4}}}}, "t a:int b:flag c:real d:text\n"},
	{[]Type{{"t", []Field{{"b", 2}, {"a", 1}, {"c", 3}, {"d", 4}}}}, "t b:flag a:int c:real d:text\n"},
	{[]Type{{"t", []Field{{"a", 1}}}, {"u", []Field{{"b", 1}}}}, "t a:int\nu b:int\n"},
	{[]Type{{"t", []Field{{"a", 1}, {"b", 1}}}, {"u", nil}}, "t a:int b:int\nu\n"},
	{[]Type{{"t", nil}, {"u", []Field{{"a", 1}, {"b", 1}}}}, "t\nu a:int b:int\n"},
	// Names that stand once in their list, though elsewhere too; and those of kinds.
	{[]Type{{"t", []Field{{"t", 4}, {"u", 4}}}, {"u", []Field{{"t", 4}, {"u", 1}}}}, "t t:text u:text\nu t:text u:int\n"},
	{[]Type{{"int", []Field{{"text", 3}, {"int", 2}}}}, "int text:real int:flag\n"},
	{full(), "" +
		"a_012345678a a_01234:int a_012345:flag a_0123456:real a_01234567:text a_012345678:int a_0123456789:flag\n" +
		"a_012345678b a_01234:flag a_012345:real a_0123456:text a_01234567:int a_012345678:flag a_0123456789:real\n" +
		"a_012345678c a_01234:real a_012345:text a_0123456:int a_01234567:flag a_012345678:real a_0123456789:text\n" +
		"a_012345678d a_01234:text a_012345:int a_0123456:flag a_01234567:real a_012345678:text a_0123456789:int\n" +
		"a_012345678e a_01234:int a_012345:flag a_0123456:real a_01234567:text a_012345678:int a_0123456789:flag\n" +
		"a_012345678f a_01234:flag a_012345:real a_0123456:text a_01234567:int a_012345678:flag a_0123456789:real\n" +
		"a_012345678g a_01234:real a_012345:text a_0123456:int a_01234567:flag a_012345678:real a_0123456789:text\n" +
		"a_012345678h a_01234:text a_012345:int a_0123456:flag a_01234567:real a_012345678:text a_0123456789:int\n"},
}

// P6.1

func TestNamesOfOneByte(t *testing.T) {
	for c := range 256 {
		if s := string([]byte{byte(c)}); Name(s) != (c >= 'a' && c <= 'z') {
			t.Errorf("Name(%q) = %t", s, Name(s))
		}
	}
}

func TestEachOtherByteOfAName(t *testing.T) {
	for c := range 256 {
		want := c >= 'a' && c <= 'z' || c >= '0' && c <= '9' || c == '_'
		for at := 1; at < len(longest); at++ {
			b := []byte(longest)
			b[at] = byte(c)
			if Name(string(b)) != want || Name(string(b[:at+1])) != want {
				t.Errorf("Name(%q) = %t, Name(%q) = %t", b, Name(string(b)), b[:at+1], Name(string(b[:at+1])))
			}
		}
	}
}

func TestNamesHaveFromOneByteToMaxName(t *testing.T) {
	for n := range 40 {
		for _, s := range []string{strings.Repeat("x", n), (longest + longest + longest + longest)[:n]} {
			if want := n >= 1 && n <= api.MaxName; Name(s) != want {
				t.Errorf("Name(%q) = %t", s, !want)
			}
		}
	}
	if Name(strings.Repeat("a", 1<<20)) {
		t.Error("of 2^20 bytes")
	}
}

func TestReservedIsNoName(t *testing.T) {
	for _, s := range reserved {
		if Name(s) || !Reserved(s) {
			t.Errorf("%q: a name %t, reserved %t", s, Name(s), Reserved(s))
		}
		// What only looks like it is a name.
		for _, near := range []string{s + "s", s + "_", s + "0", "x" + s, s[:len(s)-1], s[1:], s + s} {
			if !Name(near) && len(near) <= api.MaxName || Reserved(near) {
				t.Errorf("%q: a name %t, reserved %t", near, Name(near), Reserved(near))
			}
		}
	}
}

func TestReservedOfOthers(t *testing.T) {
	for _, s := range []string{
		"", " ", "\x00", "a", "x", "int", "flag", "real", "text", "in", "is", "if", "xor", "none", "all", "skip", "nil", "Any", "ANY", "By", "True", "FALSE",
		" any", "any ", "any\n", "any\x00", "not any", "and,or", "within by", longest, strings.Repeat("any", 70000),
	} {
		if Reserved(s) {
			t.Errorf("Reserved(%q)", s)
		}
	}
	if Name("Any") || Name("any ") || Name("") || Name("\u00e9") || Name("a\u00e9") {
		t.Error("names that are none")
	}
}

// P6.2

func TestCheckOfWhatMayBe(t *testing.T) {
	for _, x := range right {
		if e := Check(x.l); e != api.OK {
			t.Errorf("Check(%v) = %v", x.l, e)
		}
	}
	if e := Check([]Type{}); e != api.OK {
		t.Error(e)
	}
	if e := Check([]Type{{"t", []Field{}}}); e != api.OK {
		t.Error(e)
	}
}

// nine are one type more than may be.
func nine(l []Type) []Type {
	for len(l) <= api.MaxTypes {
		l = append(l, Type{Name: "x" + string(rune('a'+len(l)))})
	}
	return l
}

// seven are one field more than may be.
func seven(l []Field) []Field {
	for len(l) <= api.MaxFields {
		l = append(l, Field{"x" + string(rune('a'+len(l))), value.Int})
	}
	return l
}

// refused is a schema that may not be, and the error that it is answered by.
type refused struct {
	l []Type
	e api.Errno
}

// wrong are schemas that may not be.
func wrong() []refused {
	a := Field{"a", value.Int}
	return []refused{
		// Too many types: ahead of all else.
		{nine(nil), api.ErrLong}, {nine(named("")), api.ErrLong}, {nine(named("a", "a")), api.ErrLong}, {nine([]Type{{"t", []Field{{"a", 9}}}}), api.ErrLong},
		{make([]Type, 9), api.ErrLong}, {make([]Type, 300), api.ErrLong}, {make([]Type, 8), api.ErrForm},
		// A type's name: ahead of its fields.
		{named(""), api.ErrForm}, {named("A"), api.ErrForm}, {named("0a"), api.ErrForm}, {named("_a"), api.ErrForm}, {named("any"), api.ErrForm}, {named("by"), api.ErrForm},
		{named(longest + "x"), api.ErrForm}, {named("a b"), api.ErrForm}, {named("a", "b", "c "), api.ErrForm}, {named("a\n"), api.ErrForm},
		{[]Type{{"", seven(nil)}}, api.ErrForm}, {[]Type{{"or", []Field{{"a", 0}}}}, api.ErrForm}, {[]Type{{"T", []Field{a, a}}}, api.ErrForm},
		{named("", ""), api.ErrForm}, {named("not", "not"), api.ErrForm},
		// Too many fields: ahead of each of them.
		{[]Type{{"t", seven(nil)}}, api.ErrLong}, {[]Type{{"t", seven([]Field{{"", 1}})}}, api.ErrLong}, {[]Type{{"t", seven([]Field{{"a", 9}})}}, api.ErrLong},
		{[]Type{{"t", seven([]Field{a, a})}}, api.ErrLong}, {[]Type{{"t", make([]Field, 300)}}, api.ErrLong}, {[]Type{{"t", make([]Field, 6)}}, api.ErrForm},
		// A field: its name, its kind, and a field ahead of that name.
		{[]Type{{"t", []Field{{"", 1}}}}, api.ErrForm}, {[]Type{{"t", []Field{{"A", 1}}}}, api.ErrForm}, {[]Type{{"t", []Field{{"true", 1}}}}, api.ErrForm},
		{[]Type{{"t", []Field{{longest + "x", 4}}}}, api.ErrForm}, {[]Type{{"t", []Field{a, {"b:", 4}}}}, api.ErrForm}, {[]Type{{"t", []Field{a, {"", 1}, {"", 1}}}}, api.ErrForm},
		{[]Type{{"t", []Field{{"", 0}}}}, api.ErrForm}, {[]Type{{"t", []Field{{"next", 5}}}}, api.ErrForm},
		{[]Type{{"t", []Field{{"a", 0}}}}, api.ErrKind}, {[]Type{{"t", []Field{{"a", 5}}}}, api.ErrKind}, {[]Type{{"t", []Field{{"a", 255}}}}, api.ErrKind},
		{[]Type{{"t", []Field{a, {"a", 5}}}}, api.ErrKind}, {[]Type{{"t", []Field{a, {"b", 0}, a}}}, api.ErrKind},
		{[]Type{{"t", []Field{a, a}}}, api.ErrTwice}, {[]Type{{"t", []Field{a, {"a", 2}}}}, api.ErrTwice},
		{[]Type{{"t", []Field{a, {"b", 1}, {"c", 1}, {"d", 1}, {"e", 1}, {"a", 4}}}}, api.ErrTwice}, {[]Type{{"t", []Field{{"b", 1}, a, {"c", 2}, a}}}, api.ErrTwice},
		// Field by field.
		{[]Type{{"t", []Field{a, a, {"", 1}}}}, api.ErrTwice}, {[]Type{{"t", []Field{a, a, {"b", 9}}}}, api.ErrTwice},
		{[]Type{{"t", []Field{{"a", 9}, {"", 1}}}}, api.ErrKind}, {[]Type{{"t", []Field{{"", 1}, {"a", 9}}}}, api.ErrForm},
		// A type ahead of that name: behind its fields.
		{named("a", "a"), api.ErrTwice}, {named("a", "b", "c", "d", "e", "f", "g", "a"), api.ErrTwice}, {[]Type{ints("t", "a"), {"t", nil}}, api.ErrTwice},
		{[]Type{ints("t", "a"), ints("u", "a"), ints("t", "b")}, api.ErrTwice}, {named("b", "a", "a"), api.ErrTwice},
		{[]Type{{"t", nil}, {"t", seven(nil)}}, api.ErrLong}, {[]Type{{"t", nil}, {"t", []Field{{"", 1}}}}, api.ErrForm},
		{[]Type{{"t", nil}, {"t", []Field{{"a", 0}}}}, api.ErrKind}, {[]Type{{"t", nil}, {"t", []Field{{"b", 1}, {"c", 1}, {"B", 1}}}}, api.ErrForm},
		// Type by type.
		{append(named("a", "a"), Type{Name: ""}), api.ErrTwice}, {append(named("a", "a"), Type{"t", seven(nil)}), api.ErrTwice},
		{append(named("a", "", "a"), ints("t", "a", "a")), api.ErrForm}, {[]Type{{"t", []Field{{"a", 9}}}, {"", nil}}, api.ErrKind},
		{[]Type{{"t", seven(nil)}, {"", nil}}, api.ErrLong}, {[]Type{ints("t", "a", "a"), {"", nil}}, api.ErrTwice}, {append(full()[:7], ints("t", "any")), api.ErrForm},
	}
}

func TestCheckTellsTheFirstError(t *testing.T) {
	for _, x := range wrong() {
		if e := Check(x.l); e != x.e {
			t.Errorf("Check(%v) = %v, not %v", x.l, e, x.e)
		}
	}
}

func TestCheckOfKinds(t *testing.T) {
	for kind := range 256 {
		want := api.ErrKind
		if kind >= 1 && kind <= 4 {
			want = api.OK
		}
		for _, l := range [][]Type{{{"t", []Field{{"a", uint8(kind)}}}}, {{"s", nil}, {"t", []Field{{"a", 4}, {"b", uint8(kind)}}}}} {
			if e := Check(l); e != want {
				t.Errorf("Check(%v) = %v", l, e)
			}
		}
	}
}

// P6.3

func TestFindTellsTheFirstTypeOfAName(t *testing.T) {
	l := []Type{ints("a", "x"), ints("b"), ints("a", "y"), ints("", "z"), ints("any", "u", "v"), ints("")}
	for _, x := range []struct {
		name string
		want Type
		is   bool
	}{
		{"a", l[0], true}, {"b", l[1], true}, {"", l[3], true}, {"any", l[4], true},
		{"c", Type{}, false}, {"x", Type{}, false}, {"A", Type{}, false}, {"a ", Type{}, false}, {"an", Type{}, false}, {longest, Type{}, false},
	} {
		got, is := Find(l, x.name)
		if is != x.is || !Same([]Type{got}, []Type{x.want}) {
			t.Errorf("Find(%q) = %v, %t", x.name, got, is)
		}
	}
	for _, none := range [][]Type{nil, {}} {
		for _, name := range []string{"", "a"} {
			if got, is := Find(none, name); is || got.Name != "" || got.Fields != nil {
				t.Errorf("Find of none, %q: %v, %t", name, got, is)
			}
		}
	}
}

func TestFindOfEachType(t *testing.T) {
	for _, x := range right {
		for _, want := range x.l {
			if got, is := Find(x.l, want.Name); !is || !Same([]Type{got}, []Type{want}) {
				t.Errorf("Find(%v, %q) = %v, %t", x.l, want.Name, got, is)
			}
		}
		if got, is := Find(x.l, "absent"); is || got.Name != "" || got.Fields != nil {
			t.Errorf("Find(%v, absent) = %v, %t", x.l, got, is)
		}
	}
}

func TestFindTellsAListOfItsOwn(t *testing.T) {
	l := full()
	got, _ := Find(l, l[3].Name)
	got.Fields[0] = Field{"changed", 9}
	got.Fields = append(got.Fields[:2], Field{"changed", 9})
	if !Same(l, full()) {
		t.Error("the types were changed", l)
	}
}

func TestFieldTellsThePlaceAndTheKindOfTheFirst(t *testing.T) {
	of := Type{"t", []Field{{"a", value.Int}, {"b", value.Text}, {"a", value.Flag}, {"", value.Real}, {"c", 0}, {"d", 200}, {"", 1}, {"by", 2}}}
	for _, x := range []struct {
		name string
		at   int
		kind uint8
	}{
		{"a", 0, value.Int}, {"b", 1, value.Text}, {"", 3, value.Real}, {"c", 4, 0}, {"d", 5, 200}, {"by", 7, value.Flag},
		{"t", -1, 0}, {"e", -1, 0}, {"A", -1, 0}, {"a ", -1, 0}, {"ab", -1, 0}, {longest, -1, 0},
	} {
		if at, kind := of.Field(x.name); at != x.at || kind != x.kind {
			t.Errorf("Field(%q) = %d, %d", x.name, at, kind)
		}
	}
	for _, none := range []Type{{}, {Name: "a"}, {"a", []Field{}}} {
		for _, name := range []string{"", "a"} {
			if at, kind := none.Field(name); at != -1 || kind != 0 {
				t.Errorf("Field(%q) of none = %d, %d", name, at, kind)
			}
		}
	}
}

// P6.4

func TestFits(t *testing.T) {
	of := Type{"t", []Field{{"a", value.Int}, {"b", value.Flag}, {"c", value.Real}, {"d", value.Text}}}
	i, f, r, s := value.OfInt(7), value.OfFlag(true), value.OfReal(1), value.OfText("x")
	none, much, many := value.Value{}, value.Value{Kind: value.Int, N: api.MaxNum + 1}, value.Value{Kind: value.Text, Text: strings.Repeat("x", 25)}
	unclean, more := value.Value{Kind: value.Real, Bits: math.MaxUint64}, value.Value{Kind: value.Flag, Text: "x"}
	for _, x := range []struct {
		vals []value.Value
		e    api.Errno
	}{
		{[]value.Value{i, f, r, s}, api.OK}, {[]value.Value{value.OfInt(-api.MaxNum), value.OfFlag(false), value.OfReal(0x7ff8000000000000), value.OfText("")}, api.OK},
		// Not as many as fields: whatever they are.
		{nil, api.ErrLong}, {[]value.Value{}, api.ErrLong}, {[]value.Value{i}, api.ErrLong}, {[]value.Value{i, f, r}, api.ErrLong}, {[]value.Value{i, f, r, s, s}, api.ErrLong},
		{[]value.Value{none}, api.ErrLong}, {[]value.Value{s, s, s}, api.ErrLong}, {[]value.Value{none, f, r, s, i}, api.ErrLong},
		// Of another kind, each of them.
		{[]value.Value{f, f, r, s}, api.ErrType}, {[]value.Value{r, f, r, s}, api.ErrType}, {[]value.Value{s, f, r, s}, api.ErrType},
		{[]value.Value{i, i, r, s}, api.ErrType}, {[]value.Value{i, f, i, s}, api.ErrType}, {[]value.Value{i, f, r, f}, api.ErrType}, {[]value.Value{s, r, f, i}, api.ErrType},
		// That may not be.
		{[]value.Value{none, f, r, s}, api.ErrKind}, {[]value.Value{{Kind: 5}, f, r, s}, api.ErrKind}, {[]value.Value{i, f, r, none}, api.ErrKind},
		{[]value.Value{much, f, r, s}, api.ErrRange}, {[]value.Value{i, more, r, s}, api.ErrArg}, {[]value.Value{i, f, unclean, s}, api.ErrForm}, {[]value.Value{i, f, r, many}, api.ErrLong},
		// Of each its Check ahead of its kind, and value by value.
		{[]value.Value{more, f, r, s}, api.ErrArg}, {[]value.Value{i, much, r, s}, api.ErrRange}, {[]value.Value{i, f, r, unclean}, api.ErrForm},
		{[]value.Value{f, none, r, s}, api.ErrType}, {[]value.Value{none, i, r, s}, api.ErrKind}, {[]value.Value{i, i, unclean, many}, api.ErrType},
		{[]value.Value{i, f, unclean, much}, api.ErrForm}, {[]value.Value{i, f, r, i}, api.ErrType},
	} {
		if e := Fits(of, x.vals); e != x.e {
			t.Errorf("Fits(%v) = %v, not %v", x.vals, e, x.e)
		}
	}
}

func TestFitsOfTypesWithoutFieldsAndThoseThatMayNotBe(t *testing.T) {
	one := []value.Value{value.OfInt(1)}
	for _, x := range []struct {
		of   Type
		vals []value.Value
		e    api.Errno
	}{
		{Type{}, nil, api.OK}, {Type{"t", nil}, []value.Value{}, api.OK}, {Type{"t", []Field{}}, nil, api.OK}, {Type{"t", nil}, one, api.ErrLong},
		{Type{"", []Field{{"", 1}}}, one, api.OK}, {Type{"t", []Field{{"a", 0}}}, one, api.ErrType}, {Type{"t", []Field{{"a", 200}}}, one, api.ErrType},
		{Type{"t", []Field{{"a", 0}}}, []value.Value{{}}, api.ErrKind}, {Type{"t", []Field{{"a", 200}}}, []value.Value{{Kind: 200}}, api.ErrKind},
		{Type{"t", seven(nil)}, make([]value.Value, 7), api.ErrKind}, {Type{"t", make([]Field, 300)}, one, api.ErrLong},
	} {
		if e := Fits(x.of, x.vals); e != x.e {
			t.Errorf("Fits(%v, %v) = %v, not %v", x.of, x.vals, e, x.e)
		}
	}
}

func TestFitsOfEachKind(t *testing.T) {
	vals := []value.Value{value.OfInt(0), value.OfFlag(false), value.OfReal(0), value.OfText("")}
	for kind := range uint8(7) {
		for _, v := range vals {
			want := api.ErrType
			if v.Kind == kind {
				want = api.OK
			}
			if e := Fits(Type{"t", []Field{{"a", kind}}}, []value.Value{v}); e != want {
				t.Errorf("%v in a field of kind %d: %v", v, kind, e)
			}
		}
	}
}

// P6.5

func TestPrint(t *testing.T) {
	for _, x := range right {
		if s := Print(x.l); s != x.s {
			t.Errorf("Print(%v) = %q", x.l, s)
		}
	}
	// Of what may not be, too: a kind that is none has no word.
	for _, x := range []struct {
		l []Type
		s string
	}{
		{[]Type{}, ""}, {named(""), "\n"}, {make([]Type, 9), strings.Repeat("\n", 9)}, {[]Type{{"any", []Field{{"", 1}, {"A", 0}, {"A", 9}}}}, "any :int A: A:\n"},
	} {
		if s := Print(x.l); s != x.s {
			t.Errorf("Print(%v) = %q", x.l, s)
		}
	}
}

func TestParse(t *testing.T) {
	for _, x := range right {
		l, e := Parse(x.s)
		if e != api.OK || !Same(l, x.l) {
			t.Errorf("Parse(%q) = %v, %v", x.s, l, e)
		}
		// Same is not asked alone.
		if len(l) != len(x.l) {
			t.Fatalf("Parse(%q): %d types", x.s, len(l))
		}
		for at := range l {
			if l[at].Name != x.l[at].Name || len(l[at].Fields) != len(x.l[at].Fields) {
				t.Fatalf("Parse(%q) = %v", x.s, l)
			}
			for place, f := range l[at].Fields {
				if f != x.l[at].Fields[place] {
					t.Errorf("Parse(%q) = %v", x.s, l)
				}
			}
		}
	}
}

// checkRefused reads a text that is no schema's, or one's that may not be.
func checkRefused(t *testing.T, s string, want api.Errno) {
	t.Helper()
	if l, e := Parse(s); len(l) != 0 || e != want {
		t.Errorf("Parse(%.80q) = %v, %v, not %v", s, l, e, want)
	}
}

func TestParseOfWhatIsNoSchemasText(t *testing.T) {
	for _, s := range []string{
		// Without a line feed at the end.
		"a", " ", ":", "a b:int", "a\nb", "a b:int\nc d:int", "a\n\x00", "a\n ", "\nb",
		// A field without a colon, a kind, or either.
		"a \n", "a b\n", "a b:\n", "a :\n", "a  b:int\n", "a b:int \n", " \n", "a b:int c\n", "a b c:int\n", "a int\n", "a\n b\n",
		// A kind that is none's word.
		"a b:Int\n", "a b:in\n", "a b:ints\n", "a b:int:int\n", "a b::int\n", "a b:int\r\n", "a b:int\x00\n", "a b:1\n", "a b:\x01\n", "a b:float\n", "a b:int,\n", "a b:int\tc:int\n",
		// Ahead of what Check tells.
		"\na", "A\nb", "a\na\nb", "a b:int b:int\nc", "any \n", "A b:i\n", "a\na \n", strings.Repeat("a\n", 9) + "a", strings.Repeat("\n", 300) + "a b\n",
		strings.Repeat("a\n", 20) + "a b:none\n" + strings.Repeat("a\n", 20),
		"a" + strings.Repeat(" b:int", 9) + " b\n", "a" + strings.Repeat(" b:int", 20) + " b:none" + strings.Repeat(" b:int", 20) + "\n",
	} {
		checkRefused(t, s, api.ErrForm)
	}
}

func TestParseOfSchemasThatMayNotBe(t *testing.T) {
	for _, x := range wrong() {
		s := Print(x.l)
		want := x.e
		if !form.MatchString(s) {
			want = api.ErrForm
		}
		checkRefused(t, s, want)
	}
	for _, x := range []struct {
		s string
		e api.Errno
	}{
		// Any names: none, with a colon or a tab in a type's, with bytes of any kind.
		{"\n", api.ErrForm}, {"\n\n", api.ErrForm}, {strings.Repeat("\n", 8), api.ErrForm}, {strings.Repeat("\n", 9), api.ErrLong}, {strings.Repeat("\n", 1<<20), api.ErrLong},
		{strings.Repeat("\n", 8) + "a:int\n", api.ErrLong}, {strings.Repeat("\n", 8) + "\xff\t:\r\x00\n", api.ErrLong}, {strings.Repeat("\n", 8) + "a \xff\x00\t\r:int\n", api.ErrLong},
		{"a:int\n", api.ErrForm}, {"a\r\n", api.ErrForm}, {"a :int\n", api.ErrForm}, {" b:int\n", api.ErrForm}, {" :int\n", api.ErrForm},
		{"a" + strings.Repeat(" :int", 6) + "\n", api.ErrForm}, {"a" + strings.Repeat(" :int", 7) + "\n", api.ErrLong}, {strings.Repeat(" :int", 7) + "\n", api.ErrForm},
		{"a" + strings.Repeat(" b:int", 1<<18) + "\n", api.ErrLong}, {strings.Repeat("a", 1<<20) + "\n", api.ErrForm}, {"a " + strings.Repeat("b", 1<<20) + ":int\n", api.ErrForm},
		{"a\na\n", api.ErrTwice}, {"a b:int b:text\n", api.ErrTwice}, {"a b:int\nb c:int\na\n", api.ErrTwice}, {"a any:int\n", api.ErrForm}, {"false\n", api.ErrForm},
		// The first one, type by type.
		{"a\na\n\n", api.ErrTwice}, {"a\n\na\n", api.ErrForm}, {"a b:int b:int\nC\n", api.ErrTwice}, {"a" + strings.Repeat(" :int", 7) + "\n\n", api.ErrLong},
		{longest + "\n" + longest + "x\n", api.ErrForm}, {longest + " " + longest + "x:int\n", api.ErrForm},
	} {
		checkRefused(t, x.s, x.e)
	}
}

func TestNamesAreInMemoryOfTheirOwn(t *testing.T) {
	s := "buy price:int of:text\nsell\n"
	l, _ := Parse(s)
	for i := range len(s) {
		p := unsafe.StringData(s[i:])
		if p == unsafe.StringData(l[0].Name) || p == unsafe.StringData(l[0].Fields[1].Name) || p == unsafe.StringData(l[1].Name) {
			t.Errorf("a name stands at byte %d of the text", i)
		}
	}
}

func TestWhatIsParsedIsNewMemory(t *testing.T) {
	s := Print(full())
	first, _ := Parse(s)
	second, _ := Parse(s)
	for at := range first {
		clear(first[at].Fields[:cap(first[at].Fields)])
		for other := range first {
			if other > at && !Same(first[other:other+1], full()[other:other+1]) {
				t.Errorf("the fields of type %d share memory with those of type %d", at, other)
			}
		}
	}
	clear(first[:cap(first)])
	if !Same(second, full()) {
		t.Error("two answers share memory")
	}
}

func TestSame(t *testing.T) {
	for i, x := range right {
		for j, y := range right {
			if same := Same(x.l, copied(y.l)); same != (i == j) {
				t.Errorf("Same(%v, %v) = %t", x.l, y.l, same)
			}
		}
	}
	if !Same(nil, []Type{}) || !Same([]Type{}, nil) || !Same(named("a"), []Type{{"a", []Field{}}}) || !Same([]Type{{"a", []Field{}}}, named("a")) {
		t.Error("a list that is empty is not none")
	}
}

func TestSameOfEachThingThatIsUnlike(t *testing.T) {
	for at := range api.MaxTypes {
		for field := range api.MaxFields {
			for _, change := range []func(l []Type) []Type{
				func(l []Type) []Type { l[at].Name += "x"; return l },
				func(l []Type) []Type { l[at].Fields[field].Name += "x"; return l },
				func(l []Type) []Type { l[at].Fields[field].Kind ^= 8; return l },
				func(l []Type) []Type { l[at].Fields = l[at].Fields[:field]; return l },
				func(l []Type) []Type { l[at].Fields = append(l[at].Fields, Field{}); return l },
				func(l []Type) []Type { return l[:at] },
				func(l []Type) []Type { return append(l, Type{}) },
				func(l []Type) []Type { next := (at + 1) % len(l); l[at], l[next] = l[next], l[at]; return l },
				func(l []Type) []Type {
					f, next := l[at].Fields, (field+1)%len(l[at].Fields)
					f[field], f[next] = f[next], f[field]
					return l
				},
			} {
				changed := change(full())
				if Same(changed, full()) || Same(full(), changed) || !Same(changed, copied(changed)) {
					t.Errorf("%v, at %d and %d", changed, at, field)
				}
			}
		}
	}
}

func TestSameOfTypesThatMayNotBe(t *testing.T) {
	for _, x := range wrong() {
		if !Same(x.l, copied(x.l)) || Same(x.l, append(copied(x.l), Type{})) || Same(x.l, x.l[1:]) {
			t.Errorf("of %v", x.l)
		}
	}
}

// Rule 3

func TestWhatIsHandedInStaysAsItWas(t *testing.T) {
	l, vals := full(), []value.Value{value.OfInt(1), value.OfFlag(true), value.OfReal(1), value.OfText("a"), value.OfInt(2), value.OfFlag(false)}
	kept := append([]value.Value(nil), vals...)
	Check(l)
	Print(l)
	Same(l, l)
	Find(l, l[7].Name)
	l[7].Field(longest)
	if e := Fits(l[0], vals); e != api.OK {
		t.Error(e)
	}
	if !Same(l, full()) {
		t.Error(l)
	}
	for at := range vals {
		if vals[at] != kept[at] {
			t.Error(vals)
		}
	}
}

// P6.6

func TestASchemaThatMayBeIsReadOfItsText(t *testing.T) {
	for n := range api.MaxTypes + 1 {
		for fields := range api.MaxFields + 1 {
			l := full()[:n]
			for at := range l {
				l[at].Fields = l[at].Fields[:(fields+at)%(api.MaxFields+1)]
			}
			if got, e := Parse(Print(l)); e != api.OK || !Same(got, l) {
				t.Errorf("%q: %v, %v", Print(l), got, e)
			}
		}
	}
}

// form is that of a schema's text, of any names.
var form = regexp.MustCompile(`^([^ \n]*( [^ :\n]*:(int|flag|real|text))*\n)*$`)

// read tells the types of a text that has the form.
func read(s string) []Type {
	var l []Type
	kinds := map[string]uint8{"int": 1, "flag": 2, "real": 3, "text": 4}
	for _, line := range strings.SplitAfter(s, "\n") {
		if line == "" {
			continue
		}
		words := strings.Split(strings.TrimSuffix(line, "\n"), " ")
		t := Type{Name: words[0]}
		for _, w := range words[1:] {
			colon := strings.IndexByte(w, ':')
			t.Fields = append(t.Fields, Field{w[:colon], kinds[w[colon+1:]]})
		}
		l = append(l, t)
	}
	return l
}

// checkText holds what is read of a text against the form, Check, and the text that is printed of it.
func checkText(t *testing.T, s string) {
	t.Helper()
	if !form.MatchString(s) {
		checkRefused(t, s, api.ErrForm)
		return
	}
	want := read(s)
	if e := Check(want); e != api.OK {
		checkRefused(t, s, e)
		return
	}
	if l, e := Parse(s); e != api.OK || !Same(l, want) || Print(l) != s {
		t.Errorf("Parse(%q) = %v, %v, whose text is %q", s, l, e, Print(l))
	}
}

func TestEachTextIsOneSchemas(t *testing.T) {
	parts := []string{"a", "b", " ", ":", "\n", "int", "text", " a:int", "A"}
	var lay func(s string, more int)
	lay = func(s string, more int) {
		checkText(t, s)
		if more > 0 {
			for _, p := range parts {
				lay(s+p, more-1)
			}
		}
	}
	lay("", 5)
}

func TestTextsThatAreChangedAtOnePlace(t *testing.T) {
	for _, x := range right {
		for at := range len(x.s) + 1 {
			checkText(t, x.s[:at])
			checkText(t, x.s[at:])
			for _, c := range []string{" ", ":", "\n", "a", "0", "_", "A", "\x00", "\xff", "\n\n", " :", " a:int"} {
				checkText(t, x.s[:at]+c+x.s[at:])
				if at < len(x.s) {
					checkText(t, x.s[:at]+c+x.s[at+1:])
				}
			}
		}
	}
}

func FuzzParse(f *testing.F) {
	for _, x := range right {
		f.Add(x.s)
	}
	f.Fuzz(checkText)
}
