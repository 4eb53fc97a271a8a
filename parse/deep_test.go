package parse_test

import (
	"math/rand"
	"slices"
	"strings"
	"testing"

	"recension/api"
)

// An opener opens one nesting around what is in the middle; where there may be no more, its token of the number last is at fault.
type opener struct {
	open, mid, shut string
	last            int
}

func exprOpeners() []opener {
	return []opener{
		{"(", "x", ")", 0},
		{"f (", "", ")", 1},
		{"f (", "x", ")", 1},
		{"f ( x ,", "y", ")", 1},
		{"f (", "x", ", y )", 1},
		{"f . g (", "x", ")", 3},
		{"-", "x", "", 0},
		{"!", "x", "", 0},
		{"x + (", "y", ") * z", 2},
		{"!", "x . f", "", 0},
	}
}

func stmtOpeners() []opener {
	return []opener{
		{"{", "", "}", 0},
		{"{", "x", "}", 0},
		{"{ x ;", "y", "; z ; }", 0},
		{"if x {", "y", "}", 2},
		{"for x {", "", "}", 2},
		{"L : for x {", "", "}", 4},
		{"if x { } else {", "", "}", 2},
		{"if x {", "", "} else { }", 2},
		{"x ; if x { y } ; {", "", "} ; z", 4},
	}
}

// most is how many of a kind may stand in one another where one nesting is open.
const most = 39

func nested(o opener, count int) string {
	return strings.Repeat(o.open+" ", count) + o.mid + " " + strings.Repeat(o.shut+" ", count)
}

const head = "package a ; func f ( ) { "

const headLen = 8

// wantDeep takes count of one opener in a block, of which one more than may is at fault.
func (s *slow) wantDeep(t *testing.T, o opener, ahead string) {
	t.Helper()
	list := func(count int) []api.Token { return words(head + ahead + nested(o, count) + "} ; END") }
	want, fault := s.run(list(most))
	if fault != -1 {
		t.Errorf("the slow way of %d %q has the fault %d", most, o.open, fault)
	}
	hold(t, list(most), want, -1)
	at := headLen + len(words(ahead)) + most*len(words(o.open)) + o.last
	for count := most + 1; count <= most+3; count++ {
		hold(t, list(count), "", at)
		s.same(t, list(count))
	}
}

func TestDeep(t *testing.T) {
	s := newSlow()
	for _, o := range slices.Concat(exprOpeners(), stmtOpeners()) {
		s.wantDeep(t, o, "")
		s.wantDeep(t, o, "x ; ")
		s.wantDeep(t, o, "{ { } } ; - - x ; f ( ( x ) ) ; if x { } else if y { } ; ")
	}
	for _, o := range exprOpeners() {
		for _, ahead := range []string{"x := ", "x = ", "return ", "var x T = ", "const c = ", "( x ) + ", "- x + ", "f ( ) * ", "x . f == "} {
			s.wantDeep(t, o, ahead)
		}
	}
}

// TestDeepAtTheTop has no block around it: there is one nesting more.
func TestDeepAtTheTop(t *testing.T) {
	s := newSlow()
	for _, o := range exprOpeners() {
		for _, ahead := range []string{"const c = ", "var x T = "} {
			list := func(count int) []api.Token {
				return words("package a ; " + ahead + nested(o, count) + "; END")
			}
			want, fault := s.run(list(40))
			if fault != -1 {
				t.Errorf("the slow way of 40 %q has the fault %d", o.open, fault)
			}
			hold(t, list(40), want, -1)
			hold(t, list(41), "", 3+len(words(ahead))+40*len(words(o.open))+o.last)
			hold(t, list(60), "", 3+len(words(ahead))+40*len(words(o.open))+o.last)
		}
	}
}

// TestDeepElse has each if behind an else stand in the one ahead of it.
func TestDeepElse(t *testing.T) {
	s := newSlow()
	list := func(count int, last string) []api.Token {
		return words(head + "if x { } " + strings.Repeat("else if x { } ", count) + last + "} ; END")
	}
	for count := range 50 {
		for _, last := range []string{"", "else { } "} {
			// The block of the last if stands in all those that are behind an else, and in the func's.
			wantFault := -1
			if count > 38 {
				wantFault = headLen + 4 + 5*38 + 3
			}
			want, fault := s.run(list(count, last))
			if fault != wantFault {
				t.Errorf("the slow way of %d ifs behind an else has the fault %d", count, fault)
			}
			hold(t, list(count, last), want, wantFault)
		}
	}
	chain := "if x { } " + strings.Repeat("else if x { } ", 37)
	for _, x := range []struct {
		s    string
		last int
	}{
		{chain + "else if ( x ) { } ", -1},
		{chain + "else if - x { } ", -1},
		{chain + "else if f ( ) { - x } ", 6},
		{chain + "else if - - x { } ", 3},
		{chain + "else if ( - x ) { } ", 3},
		{chain + "else if ( ( x ) ) { } ", 3},
		{chain + "else if x { - x } ", 4},
		{chain + "else if x { { } } ", 4},
		{chain + "else if x { } else { - x } ", 7},
		{chain + "else { { } } ", -1},
		{chain + "else { { - x } } ", 3},
		{chain + "; " + chain + "else if x { } ", -1},
	} {
		wantFault := -1
		if x.last >= 0 {
			wantFault = headLen + len(words(chain)) + x.last
		}
		want, fault := s.run(words(head + x.s + "} ; END"))
		if fault != wantFault {
			t.Errorf("the slow way of %s has the fault %d, not %d", x.s, fault, wantFault)
		}
		hold(t, words(head+x.s+"} ; END"), want, wantFault)
	}
}

// TestDeepEdges has 40 nestings open where the last of these words come.
func TestDeepEdges(t *testing.T) {
	s := newSlow()
	for _, x := range []struct {
		blocks int
		body   string
		fault  int
	}{
		{39, "x", -1}, {39, "x + y * z", -1}, {39, "x . f", -1}, {39, "x := 1", -1}, {39, "var x q . T = 1", -1}, {39, "return", -1}, {39, "break L", -1},
		{39, "{", 0}, {39, "( x )", 0}, {39, "- x", 0}, {39, "! x", 0}, {39, "f ( )", 1}, {39, "x . f ( )", 3}, {39, "x + - y", 2}, {39, "x - y", -1}, {39, "x - - y", 2},
		{39, "if x { }", 2}, {39, "for x { }", 2}, {39, "L : for x { }", 4}, {39, "if - x { }", 1}, {39, "if x y { }", 2}, {39, "if { }", 1},
		{38, "if x { }", -1}, {38, "if x { } else { }", -1}, {38, "if x { } else if y { }", 7}, {38, "if x { } else if - y { }", 6}, {38, "if x { } else if y z { }", 7}, {38, "if x { } else if ( y ) { }", 6},
		{37, "if x { } else if y { }", -1}, {37, "if x { } else if - y { }", -1}, {37, "if x { } else if y { } else { }", -1}, {37, "if x { } else if y { } else if z { }", 12}, {37, "if x { } else if - - y { }", 7},
		{38, "- x", -1}, {38, "- - x", 1}, {38, "- ( x )", 1}, {38, "- f ( )", 2}, {38, "- x . f ( )", 4}, {38, "- x + f ( )", -1}, {38, "- x + - y", -1}, {38, "( x ) ( y )", -1}, {38, "f ( ) ( ) ( )", -1}, {38, "f ( g ( ) )", 3}, {38, "f ( x ) . g ( y ) . h ( z )", -1},
		{38, "{ }", -1}, {38, "{ } ; { } ; { }", -1}, {38, "{ { } }", 1}, {38, "for x { { } }", 3}, {38, "for x { } ; for x { }", -1},
		{39, ") {", 0}, {39, "x ) {", 1}, {39, "x y {", 1},
	} {
		l := words(head + strings.Repeat("{ ", x.blocks) + x.body + strings.Repeat(" }", x.blocks) + " } ; END")
		wantFault := -1
		if x.fault >= 0 {
			wantFault = headLen + x.blocks + x.fault
		}
		want, fault := s.run(l)
		if fault != wantFault {
			t.Errorf("the slow way of %d blocks and %s has the fault %d, not %d", x.blocks, x.body, fault, wantFault)
		}
		hold(t, l, want, wantFault)
	}
}

// TestDeepMixed strews openers around one another, and counts by itself.
func TestDeepMixed(t *testing.T) {
	s := newSlow()
	r := rand.New(rand.NewSource(3))
	for range 1000 {
		text, shut := head, ""
		deep, wantFault := 1, -1
		lay := func(o opener) {
			if deep == 40 && wantFault < 0 {
				wantFault = len(words(text)) + o.last
			}
			deep++
			text += o.open + " "
			shut = o.shut + " " + shut
		}
		blocks := r.Intn(42)
		for range blocks {
			all := stmtOpeners()
			lay(all[r.Intn(len(all))])
		}
		for range 36 + r.Intn(8) - blocks {
			all := exprOpeners()
			o := all[r.Intn(len(all))]
			if strings.HasPrefix(o.open, "x") {
				// Behind a `-` it would end that.
				o = all[0]
			}
			lay(o)
		}
		l := words(text + "x " + shut + "} ; END")
		want, fault := s.run(l)
		if fault != wantFault {
			t.Errorf("the slow way of %s has the fault %d, not %d", textOf(l), fault, wantFault)
		}
		hold(t, l, want, wantFault)
	}
}

// TestDeepBesideOneAnother has much, but not in one another: what has ended doesn't count.
func TestDeepBesideOneAnother(t *testing.T) {
	s := newSlow()
	for _, o := range slices.Concat(exprOpeners(), stmtOpeners()) {
		one := nested(o, most)
		l := words(head + one + "; " + one + "; " + one + "} ; END")
		s.same(t, l)
		if _, fault := s.run(l); fault != -1 {
			t.Errorf("the slow way of many %q has the fault %d", o.open, fault)
		}
		hold(t, words(head+one+"; "+nested(o, most+1)+"} ; END"), "", headLen+most*len(words(o.open))+len(words(o.mid))+most*len(words(o.shut))+1+most*len(words(o.open))+o.last)
	}
	for _, body := range []string{
		strings.Repeat("{ } ; ", 100), strings.Repeat("if x { } ; ", 100), strings.Repeat("if x { } else { } ; ", 100), strings.Repeat("if x { } else if y { } ; ", 100), strings.Repeat("for x { } ; ", 100), strings.Repeat("L : for x { } ; ", 100),
		"x" + strings.Repeat(" + ( y )", 100), "- x" + strings.Repeat(" + - y", 100), "! x" + strings.Repeat(" && ! y", 100), "f" + strings.Repeat(" ( )", 100), "f" + strings.Repeat(" ( x ) . g", 100), "f ( x" + strings.Repeat(" , ( y )", 100) + " )", "f ( x" + strings.Repeat(" , - y", 100) + " )", "f ( x" + strings.Repeat(" , g ( )", 100) + " )",
		"x" + strings.Repeat(" . f", 100), "x" + strings.Repeat(" + y * z == - w", 100),
	} {
		s.wantNoneOpen(t, strings.TrimPrefix(head, "package a ; ")+body+" ; ", most, " } ; END")
	}
	for _, decls := range []string{
		strings.Repeat("type T struct { } ; ", 100), strings.Repeat("type T struct { x int ; y int } ; ", 100), strings.Repeat("func f ( ) { } ; ", 100), strings.Repeat("func f ( x int , y q . T ) int { x } ; ", 100), strings.Repeat("var x T = ( - f ( ) ) ; ", 100), strings.Repeat("const x = ( - f ( ) ) ; ", 100),
	} {
		s.wantNoneOpen(t, decls+"const c = ", 40, " ; END")
		s.wantNoneOpen(t, decls+"func f ( x int ) T { x = ", most, " } ; END")
	}
}

// wantNoneOpen wants that behind the words ahead there may be count parentheses in one another, and no more.
func (s *slow) wantNoneOpen(t *testing.T, ahead string, count int, behind string) {
	t.Helper()
	ahead = "package a ; " + ahead
	paren := exprOpeners()[0]
	l := words(ahead + nested(paren, count) + behind)
	want, fault := s.run(l)
	if fault != -1 {
		t.Errorf("the slow way of %s has the fault %d", textOf(l), fault)
	}
	hold(t, l, want, -1)
	hold(t, words(ahead+nested(paren, count+1)+behind), "", len(words(ahead))+count)
}

// TestDeepParams: a func's parentheses are none.
func TestDeepParams(t *testing.T) {
	s := newSlow()
	params := "x int" + strings.Repeat(" , y q . T", 50)
	l := words("package a ; func f ( " + params + " ) T " + strings.Repeat("{ ", 40) + strings.Repeat("} ", 40) + "; END")
	s.same(t, l)
	if _, fault := s.run(l); fault != -1 {
		t.Errorf("the slow way has the fault %d", fault)
	}
	hold(t, words("package a ; func f ( x int ) T "+strings.Repeat("{ ", 41)+strings.Repeat("} ", 41)+"; END"), "", 50)
}

// TestDeepAndOtherFaults has both in one text: the first one is told.
func TestDeepAndOtherFaults(t *testing.T) {
	deep := nested(opener{"(", "x", ")", 0}, 40)
	blocks := nested(opener{"{", "", "}", 0}, 40)
	hold(t, words(head+"x y ; "+deep+"} ; END"), "", headLen+1)
	hold(t, words(head+deep+"; x y } ; END"), "", headLen+39)
	hold(t, words(head+"x y ; "+blocks+"} ; END"), "", headLen+1)
	hold(t, words(head+blocks+"; x y } ; END"), "", headLen+39)
	hold(t, words(head+strings.Repeat("( ", 39)+") } ; END"), "", headLen+39)
	hold(t, words(head+strings.Repeat("( ", 39)+"( ) } ; END"), "", headLen+39)
	hold(t, words(head+strings.Repeat("( ", 100)+"END"), "", headLen+39)
	hold(t, words(head+strings.Repeat("{ ", 39)+"END"), "", headLen+39)
	hold(t, words(head+strings.Repeat("{ ", 40)+"END"), "", headLen+39)
	hold(t, words(head+strings.Repeat("( ", 38)+"x y "+strings.Repeat("( ", 10)+"END"), "", headLen+39)
	hold(t, words(head+"else "+deep+"} ; END"), "", headLen)
	open := strings.Repeat("(", 39)
	wantFault(t, inFunc(open+"@(x"+strings.Repeat(")", 40)))
	wantFault(t, inFunc(open+"@(x y"+strings.Repeat(")", 40)))
	wantFault(t, inFunc("x @y;"+open+"(x"+strings.Repeat(")", 40)))
	wantFault(t, inFunc(open+"x @y"+strings.Repeat(")", 39)))
	wantFault(t, inFunc(open+"(x @? y"+strings.Repeat(")", 40)))
	wantFault(t, inFunc(strings.Repeat("{", 39)+"\n@{"))
	wantFault(t, inFunc(strings.Repeat("-", 39)+"@-x"))
	wantFault(t, inFunc(strings.Repeat("-", 39)+"@* x"))
}
