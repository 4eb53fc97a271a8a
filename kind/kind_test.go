package kind_test

import (
	"math"
	"testing"

	"recension/kind"
	"recension/name"
)

// Methods of values, so that they are also asked of what a call answers, and as functions.
var (
	_ func(kind.Kind) bool = kind.Kind.Is
	_ func(kind.Kind) bool = kind.Kind.Fields
)

// row is a kind and what is promised of it.
type row struct {
	call       string
	got, want  kind.Kind
	is, fields bool
}

// notMade are numbers of which no kind is made.
func notMade() []int {
	return []int{-1, -2, -3, -4, -255, -256, -1 << 31, -1<<31 - 1, -1 << 32, -1 << 62, math.MinInt + 1, math.MinInt}
}

// made are numbers of files and of tokens.
func made() []int {
	return []int{0, 1, 2, 3, 7, 8, 255, 256, 2000, 1<<31 - 1, 1 << 31, 1 << 32, 1<<32 + 1, 1 << 62, math.MaxInt - 1, math.MaxInt}
}

// rows are one of each kind that the functions make, each another one.
func rows() []row {
	l := []row{
		{call: "None()", got: kind.None(), want: kind.Kind{File: -2, Tok: 0}},
		{"World(0)", kind.World(0), kind.Kind{File: -1, Tok: 0}, true, false},
		{"World(1)", kind.World(1), kind.Kind{File: -1, Tok: 1}, true, false},
		{"World(2)", kind.World(2), kind.Kind{File: -1, Tok: 2}, true, false},
	}
	for _, file := range made() {
		for _, tok := range made() {
			l = append(l, row{"Struct", kind.Struct(file, tok), kind.Kind{File: file, Tok: tok}, true, true})
		}
	}
	return l
}

func TestRows(t *testing.T) {
	for _, r := range rows() {
		if r.got != r.want {
			t.Errorf("P14.1: %s is %v, not %v", r.call, r.got, r.want)
		}
		if got := r.got.Is(); got != r.is {
			t.Errorf("P14.1: Is of %s, %v, is %v", r.call, r.want, got)
		}
		if got := r.got.Fields(); got != r.fields {
			t.Errorf("P14.1: Fields of %s, %v, is %v", r.call, r.want, got)
		}
	}
}

func wantNone(t *testing.T, call string, k kind.Kind, numbers ...int) {
	t.Helper()
	if k != (kind.Kind{File: -2}) {
		t.Errorf("P14.1: %s%v is %v, not None", call, numbers, k)
	}
	if k.Is() || k.Fields() || !kind.Eq(k, kind.None()) || !kind.Eq(kind.None(), k) {
		t.Errorf("P14.1: %s%v: it is %v, has fields %v", call, numbers, k.Is(), k.Fields())
	}
}

func TestWorldOfOthers(t *testing.T) {
	for _, n := range append(notMade(), made()...) {
		if n < 0 || n > 2 {
			wantNone(t, "World", kind.World(n), n)
		}
	}
	for n := -300; n < 300; n++ {
		if n < 0 || n > 2 {
			wantNone(t, "World", kind.World(n), n)
		}
	}
}

// The world's types are what has one of its kinds, by the same number.
func TestWorldOfNames(t *testing.T) {
	for _, s := range []string{"int", "string", "bool"} {
		if k := kind.World(name.World(s)); !k.Is() || k.Tok != name.World(s) {
			t.Errorf("P14.1: World of %s is %v", s, k)
		}
	}
	for _, s := range []string{"true", "false", "x", "for", ""} {
		wantNone(t, "World", kind.World(name.World(s)), name.World(s))
	}
}

func TestStructBelowNought(t *testing.T) {
	for _, below := range notMade() {
		for _, other := range made() {
			wantNone(t, "Struct", kind.Struct(below, other), below, other)
			wantNone(t, "Struct", kind.Struct(other, below), other, below)
		}
		for _, other := range notMade() {
			wantNone(t, "Struct", kind.Struct(below, other), below, other)
		}
	}
}

func TestStructOfSmallNumbers(t *testing.T) {
	for file := -5; file < 12; file++ {
		for tok := -5; tok < 40; tok++ {
			if file < 0 || tok < 0 {
				wantNone(t, "Struct", kind.Struct(file, tok), file, tok)
				continue
			}
			if k := kind.Struct(file, tok); k.File != file || k.Tok != tok || !k.Is() || !k.Fields() {
				t.Errorf("P14.1: Struct(%d, %d) is %v, is: %v, has fields: %v", file, tok, k, k.Is(), k.Fields())
			}
		}
	}
}

// Every row is another kind than every other one, and the same as itself, made anew.
func TestEq(t *testing.T) {
	l, again := rows(), rows()
	for i, a := range l {
		for j, b := range again {
			if got := kind.Eq(a.got, b.got); got != (i == j) {
				t.Errorf("P14.1: Eq(%v, %v) is %v", a.want, b.want, got)
			}
		}
	}
}

func TestEqOfOnePart(t *testing.T) {
	rows := []struct {
		a, b kind.Kind
		want bool
	}{
		{kind.Struct(3, 4), kind.Struct(3, 4), true},
		{kind.Struct(3, 4), kind.Struct(3, 5), false},
		{kind.Struct(3, 4), kind.Struct(2, 4), false},
		{kind.Struct(3, 4), kind.Struct(4, 3), false},
		{kind.Struct(0, 1), kind.World(1), false},
		{kind.Struct(0, 0), kind.World(0), false},
		{kind.Struct(0, 0), kind.None(), false},
		{kind.World(0), kind.None(), false},
		{kind.World(0), kind.World(1), false},
		{kind.World(2), kind.World(2), true},
		{kind.None(), kind.None(), true},
		{kind.World(3), kind.None(), true},
		{kind.World(-1), kind.World(7), true},
		{kind.Struct(-1, 1), kind.World(1), false},
		{kind.Struct(-1, 1), kind.None(), true},
		{kind.Struct(-2, 0), kind.Struct(5, -1), true},
		{kind.Struct(1<<32, 0), kind.Struct(0, 0), false},
		{kind.Struct(0, 1<<32), kind.Struct(0, 0), false},
		{kind.Struct(math.MaxInt, 0), kind.Struct(0, math.MaxInt), false},
	}
	for _, r := range rows {
		if got := kind.Eq(r.a, r.b); got != r.want {
			t.Errorf("P14.1: Eq(%v, %v) is %v", r.a, r.b, got)
		}
		if got := kind.Eq(r.b, r.a); got != r.want {
			t.Errorf("P14.1: Eq(%v, %v) is %v", r.b, r.a, got)
		}
	}
}

// asked is all that can be asked of k, by calls, method values and method expressions.
func asked(t *testing.T, k kind.Kind) (is, fields bool) {
	t.Helper()
	isK, fieldsK := k.Is, k.Fields
	if isK() != k.Is() || kind.Kind.Is(k) != k.Is() || isK() != isK() {
		t.Errorf("P14.1: Is of %v answers two things", k)
	}
	if fieldsK() != k.Fields() || kind.Kind.Fields(k) != k.Fields() || fieldsK() != fieldsK() {
		t.Errorf("P14.1: Fields of %v answers two things", k)
	}
	return k.Is(), k.Fields()
}

func TestMethodValues(t *testing.T) {
	for _, r := range rows() {
		if is, fields := asked(t, r.got); is != r.is || fields != r.fields {
			t.Errorf("P14.1: of %v: it is %v, has fields %v", r.want, is, fields)
		}
	}
	k := kind.World(1)
	is, fields := k.Is, k.Fields
	k = kind.None()
	if !is() || fields() || k.Is() {
		t.Error("P14.1: a method value is of what its kind becomes")
	}
}

// A kind that none of the functions made is as its numbers are: a struct's if it is one that Struct makes.
func TestOfAnyNumbers(t *testing.T) {
	numbers := append(append(notMade(), made()...), 4, 5, 6)
	var l []kind.Kind
	for _, file := range numbers {
		for _, tok := range numbers {
			l = append(l, kind.Kind{File: file, Tok: tok})
		}
	}
	for _, k := range l {
		is, fields := asked(t, k)
		if is != (k != kind.None()) {
			t.Errorf("P14.1: Is of %v is %v", k, is)
		}
		if fields != (k.File >= 0 && k.Tok >= 0) {
			t.Errorf("P14.1: Fields of %v is %v", k, fields)
		}
	}
	for _, a := range l {
		for _, b := range l {
			if got := kind.Eq(a, b); got != (a == b) {
				t.Errorf("P14.1: Eq(%v, %v) is %v", a, b, got)
			}
		}
	}
}

func TestZero(t *testing.T) {
	var zero kind.Kind
	if is, fields := asked(t, zero); !is || !fields {
		t.Errorf("P14.1: a zero Kind: it is %v, has fields %v", is, fields)
	}
	for _, r := range rows() {
		want := r.want == kind.Kind{}
		if kind.Eq(zero, r.got) != want || kind.Eq(r.got, zero) != want {
			t.Errorf("P14.1: Eq of a zero Kind and %v is %v", r.want, !want)
		}
	}
}

// What an answer becomes is nothing that another call answers.
func TestAnswersWrittenOver(t *testing.T) {
	for range 2 {
		none, world, structs := kind.None(), kind.World(2), kind.Struct(3, 4)
		if none != (kind.Kind{File: -2}) || world != (kind.Kind{File: -1, Tok: 2}) || structs != (kind.Kind{File: 3, Tok: 4}) {
			t.Errorf("P0.3: None is %v, World(2) %v, Struct(3, 4) %v", none, world, structs)
		}
		none.File, none.Tok = 1, 1
		world.File, world.Tok = 1, 1
		structs.File, structs.Tok = 1, 1
	}
}
