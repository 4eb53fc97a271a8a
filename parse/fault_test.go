package parse_test

import (
	"math/rand"
	"slices"
	"strings"
	"testing"

	"recension/api"
	"recension/parse"
	"recension/scan"
)

// TestFileFaults has an `@` ahead of the first token at which no file can go on.
func TestFileFaults(t *testing.T) {
	for _, s := range []string{
		"@", " \n@", "@x", "@1", "@;", "@;package a", "@;\npackage a", "@import b", "@var x T", "@const c = 1", "@func f() {}", "@type T struct {}", "@{}", "@}", "@(", "@-",
		"package@", "package\n@", "package @1", "package @\"a\"", "package @;", "package @;a", "package @package a", "package @import b", "package @.", "package @(a)", "package @}",
		"package a @b", "package a @1", "package a@.b", "package a@, b", "package a @{}", "package a@}", "package a @= 1", "package a @import b", "package a @var x T", "package a @package a",
	} {
		wantFault(t, s)
	}
	for _, s := range []string{
		"@x", "@1", "@\"s\"", "@package b", "@}", "@{}", "@(x)", "@-x", "@x := 1", "@x = 1", "@if x {}", "@for x {}", "@return", "@break", "@continue", "@else", "@struct {}", "@= 1", "@, b", "@. b",
		"import@", "import @1", "import @\"b\"", "import @;", "import @;b", "import @(b)", "import @import", "import b @c", "import b @1", "import b@, c", "import b@.c", "import b @var x T", "import b @import c", "import b @= c", "import b\n@c", "import b\n@package c",
		"var x T\n@import b", "const c = 1\n@import b", "type T struct {}\n@import b", "func f() {}\n@import b", "import b\nvar x T\n@import c", "import b;;var x T;;@import c",
		"var@", "var @1", "var @=", "var @;", "var @var", "var @(x T)", "var @= T",
		"var x@", "var x@\nT", "var x@;", "var x @= 1", "var x @1", "var x @:= 1", "var x @-T", "var x @(T)", "var x@, y T", "var x@.y T", "var x @struct {}", "var x @\"s\"", "var x @}",
		"var x T @1", "var x T @U", "var x T @:= 1", "var x T @== 1", "var x T@, y T", "var x T@(", "var x T @+ 1", "var x T @{}", "var x T @var y T",
		"var x q.@", "var x q.\n@", "var x q.@1", "var x q.@;", "var x q.@.T", "var x q.@(T)", "var x q.@= 1", "var x q.T@.U", "var x q.T @U", "var x q @T",
		"var x T =@", "var x T = @;", "var x T = @)", "var x T = @= 1", "var x T = @var", "var x T = @{}", "var x T = @}", "var x T = 1 @2", "var x T = 1 @= 2", "var x T = y@, z", "var x T = y @:= z", "var x T = y@: z", "var x T = y @{}",
		"const@", "const @1", "const @=", "const @;", "const @(c)", "const c@", "const c@;", "const c@\n= 1", "const c @1", "const c @T = 1", "const c @:= 1", "const c @== 1", "const c@, d = 1", "const c@.d = 1",
		"const c =@", "const c =\n@", "const c = @;", "const c = @)", "const c = @}", "const c = @= 1", "const c = @{}", "const c = 1 @2", "const c = 1 @= 2", "const c = d@, 1", "const c = 1 @{}", "const c = d @:= 1", "const c = d@: 1",
		"type@", "type @1", "type @;", "type @struct {}", "type @(", "type T@", "type T@;", "type T@\nstruct {}", "type T @int", "type T @U", "type T @= U", "type T @{}", "type T@.U struct {}", "type T @func", "type T @type", "type T @(",
		"type T struct@", "type T struct\n@", "type T struct @x", "type T struct @;", "type T struct @(", "type T struct @}", "type T struct @struct {}",
		"type T struct {@", "type T struct {@)", "type T struct {@1 int}", "type T struct {@, x int}", "type T struct {@var x int}", "type T struct {@{}}", "type T struct {@= 1}", "type T struct {@(x int)}", "type T struct {@type U struct {}}",
		"type T struct {x@}", "type T struct {x@;}", "type T struct {x@\nint}", "type T struct {x@, y int}", "type T struct {x @1}", "type T struct {x @= 1}", "type T struct {x @(int)}", "type T struct {x @struct {}}", "type T struct {x@.y int}", "type T struct {x@:",
		"type T struct {x int@", "type T struct {x int @y int}", "type T struct {x int@, y int}", "type T struct {x int @= 1}", "type T struct {x int@)", "type T struct {x int @1}", "type T struct {x int @{}}", "type T struct {x q.@}", "type T struct {x q.@;}", "type T struct {x q.T@.U}", "type T struct {x int;y@}", "type T struct {x int;@1}",
		"type T struct {}@}", "type T struct {} @x", "type T struct {} @type U struct {}", "type T struct {}@()", "type T struct {}@, ", "type T struct {}@.x",
		"func@", "func @1", "func @;", "func @() {}", "func @(x T) f() {}", "func @func f() {}", "func f@", "func f@;", "func f@\n() {}", "func f @{}", "func f @1", "func f@.g() {}", "func f @g() {}", "func f@) {}", "func f @= 1", "func f @int {}",
		"func f(@", "func f(@;", "func f(@1)", "func f(@,)", "func f(@(x int))", "func f(@-x)", "func f(@{}", "func f(@var x int)", "func f(@}", "func f(@=",
		"func f(x@", "func f(x@) {}", "func f(x@, y int) {}", "func f(x@.y int) {}", "func f(x @1) {}", "func f(x @(int)) {}", "func f(x @= 1) {}", "func f(x@\nint) {}", "func f(x @{}",
		"func f(x int@", "func f(x int @y int) {}", "func f(x int@; y int) {}", "func f(x int@\n) {}", "func f(x int @= 1) {}", "func f(x int @{}", "func f(x int@}", "func f(x int@(", "func f(x int@: y int) {}",
		"func f(x int,@", "func f(x int,\n@", "func f(x int,@) {}", "func f(x int, @1) {}", "func f(x int,@, y int) {}", "func f(x int,@;) {}", "func f(x int, y@) {}", "func f(x int, y@, z int) {}", "func f(x q.@) {}", "func f(x q.@, y int) {}", "func f(x q.T@.U) {}",
		"func f()@", "func f()@;", "func f()@\n{}", "func f() @1", "func f() @() {}", "func f() @(int) {}", "func f()@, {}", "func f()@.x {}", "func f() @= 1", "func f()@) {}", "func f()@}", "func f() @func", "func f() @struct {}", "func f() @-{}",
		"func f() int@", "func f() int@;", "func f() int@\n{}", "func f() int @int {}", "func f() int @1", "func f() int@, int {}", "func f() int @= 1", "func f() int@() {}", "func f() int@}", "func f() q.@{}", "func f() q.@1 {}", "func f() q.@;", "func f() q.R@.S {}", "func f() q.R@",
		"func f() {@", "func f() {x@", "func f() {x;@", "func f() {{}@", "func f() {{@", "func f() {{x}@", "func f() {if x {@", "func f() {f(@", "func f() {f(x@",
		"func f() {}@}", "func f() {} @x", "func f() {}@()", "func f() {} @{}", "func f() {} @else {}", "func f() {} @func g() {}", "func f() {}@, ", "func f() {}\n@{}", "func f() {}\n@x", "func f() {};@}", "func f() {{}}@}", "func f() {x}@}",
	} {
		wantFault(t, "package a\n"+s)
	}
}

// TestBodyFaults has an `@` ahead of the first token at which no func can go on; the last one can be the `}` of its block.
func TestBodyFaults(t *testing.T) {
	for _, s := range []string{
		"@)", "@,", "@.x", "@:", "@: for x {}", "@:= 1", "@= 1", "@+ x", "@* x", "@&& x", "@|| x", "@== x", "@!= x", "@< x", "@else {}", "@import b", "@package b", "@type T struct {}", "@func g() {}", "@struct {}",
		"x @y", "x @1", "x @\"s\"", "x @{}", "x @!y", "x @if y {}", "x @for y {}", "x @return", "x @var y T", "x @else {}", "x@)", "x@, y", "x@, y = 1", "x@, y := 1", "x;@)", "x\n@= y", "x\n@:= y", "x\n@.y", "x\n@+ y",
		"1 @x", "1 @1", "\"s\" @\"s\"", "(x) @y", "f() @g()", "x.f @g", "x + y @z",
		"x: @", "x: @y", "x: @{}", "x: @if y {}", "x: @;", "x: @;for y {}", "x: @return", "x: @M: for y {}", "x: @= 1", "x:\n@", "x: @: for y {}",
		"x.y @: for z {}", "(x) @: for z {}", "1 @: for z {}", "x + y @: for z {}", "f() @: for z {}", "-x @: for z {}", "\"s\" @: for z {}", "x @y: for z {}",
		"x.y @:= 1", "(x) @:= 1", "f() @:= 1", "1 @:= 1", "\"s\" @:= 1", "-x @:= 1", "x + y @:= 1", "x * y @:= 1", "x + y.z @:= 1",
		"x := @", "x := @;", "x := @:= y", "x := @= y", "x := @{}", "x := @if y {}", "x := @)", "x := @var", "x := y @:= z", "x := y @= z", "x := y @z", "x := y@, z", "x := y@: for z {}", "x := y @{}", "x :=\n@",
		"x = @", "x = @;", "x = @= y", "x = @{}", "x = @)", "x = @for y {}", "x = y @= z", "x = y @:= z", "x = y @z", "x = y@, z", "x = y@: for z {}", "x.f = @", "x.f = y @= z", "x =\n@",
		"var @", "var @= 1", "var x@", "var x@;", "var x@\nT", "var x @= 1", "var x T @y", "var x T = @", "var x T = y @= z", "var x q.@", "var x@, y T",
		"const @", "const @= 1", "const c@", "const c@;", "const c @1", "const c @T = 1", "const c = @", "const c = 1 @= 2", "const c @:= 1",
		"{} @x", "{} @{}", "{} @else {}", "{}@()", "{}@.x", "{} @= x", "{} @+ x", "{}@, {}", "{x @y}", "{@)}", "{x@)}",
		"if @", "if @;", "if @{}", "if @if x {}", "if @else {}", "if @var", "if x@", "if x@;", "if x@\n{}", "if x @y {}", "if x @:= 1 {}", "if x @= y {}", "if x@, y {}", "if x@: {}", "if x @else {}", "if x @if {}", "if x @return", "if (x @{}", "if f(@{})",
		"if x {} @y", "if x {} @1", "if x {} @if y {}", "if x {} @{}", "if x {}@()", "if x {} @+ y", "if x {y @z}", "if x {@)}",
		"if x {} else @", "if x {} else @x", "if x {} else @;", "if x {} else\n@", "if x {} else @for y {}", "if x {} else @else {}", "if x {} else @return", "if x {} else @(", "if x {} else @;{}",
		"if x {}\n@else {}", "if x {};@else {}", "if x {}\n\n@else {}", "if x {} // no\n@else {}", "if x {\n}\n@else {\n}", "if x {}\n@else if y {}", "if x {} else if y {}\n@else {}", "if x {} else if y {};@else {}", "{if x {}\n@else {}}",
		"if x {} else {} @else {}", "if x {} else {}\n@else {}", "if x {} else {} @x", "if x {} else {} @if y {}", "if x {} else {x @y}",
		"if x {} else if @", "if x {} else if @{}", "if x {} else if @if y {}", "if x {} else if y@", "if x {} else if y@\n{}", "if x {} else if y @else {}", "if x {} else if y {} @z", "if x {} else if y {} else @", "if x {} else if y {} else {} @else {}", "if x {} else if y {} else if @{}", "if x {} else if y @:= 1 {}",
		"for @", "for @;", "for @{}", "for @for x {}", "for @var", "for x@", "for x@;", "for x@; y; z {}", "for x@\n{}", "for x @y {}", "for x @:= y {}", "for x @= y {}", "for x@, y {}", "for x@: {}", "for x {} @y", "for x {} @else {}", "for x {}\n@else {}", "for x {}@()", "for x {} @{}", "for x {} @for y {}", "for x {y @z}",
		"return @)", "return @if x {}", "return @= x", "return @return", "return @:= 1", "return @{}", "return @+ x", "return @.x", "return @, x", "return @var", "return @:", "return x @y", "return x@, y", "return x @= y", "return x @:= y", "return x@: for y {}", "return x @{}", "return\n@= x", "return -@",
		"break @1", "break @\"L\"", "break @(L)", "break @break", "break @:", "break @.L", "break @-L", "break @= L", "break @{}", "break @for x {}", "break @, L", "break L @M", "break L@.M", "break L@: for x {}", "break L @= x", "break L@()", "break L @+ M", "break L@, M", "break L @{}", "break\n@)",
		"continue @1", "continue @\"L\"", "continue @(L)", "continue @continue", "continue @:", "continue @.L", "continue @-L", "continue @= L", "continue @{}", "continue @for x {}", "continue @, L", "continue L @M", "continue L@.M", "continue L@: for x {}", "continue L @= x", "continue L@()", "continue L @+ M", "continue L@, M", "continue L @{}",
		"L: for @", "L: for @{}", "L: for x@", "L: for x@\n{}", "L: for x {} @y", "L: for x {} @else {}", "L: for x @:= y {}", "L: for x {} @for y {}",
		"(@)", "(@", "(@;)", "(@,)", "(@=)", "(@{})", "(@+ x)", "(@if x {})", "(x@", "(x @y)", "(x@; y)", "(x@\n)", "(x@, y)", "(x @= y)", "(x @:= y)", "(x@: y)", "(x@}", "(x @{})", "((x)@", "((x)@; y)", "(x)@)", "(x.@)", "(x + @)",
		"-@", "-@)", "-@;", "-@* x", "-@+ x", "-@= x", "-@{}", "-@if x {}", "-\n@", "!@", "! @= x", "!@&& x", "--@", "!-@", "-!@;", "-x @y", "- x@)",
		"x @! y", "x @!y", "x @!!y",
		"x.@", "x.@;", "x.@1", "x.@(y)", "x.@.y", "x.@\"s\"", "x.@if", "x.@-y", "x.@!y", "x.@= y", "x.@{}", "x.@)", "x.\n@", "x.f.@", "x.f\n@.g", "x.f @1",
		"f(@", "f(@;)", "f(@,)", "f(@, x)", "f(@=)", "f(@{})", "f(@if)", "f(@*x)", "f(@:)", "f(x@", "f(x @y)", "f(x@; y)", "f(x@\n)", "f(x @= y)", "f(x @:= y)", "f(x@: y)", "f(x@}", "f(x @{})", "f(x,@)", "f(x,@", "f(x,@, y)", "f(x,@;)", "f(x,@= y)", "f(x, y@", "f(x, y@; z)", "f(x) @y", "f(x)@)", "f(x) @1", "f()@, g()", "f() @{}", "f(g(@,))", "f(g(x)@; y)",
	} {
		wantFault(t, inFunc(s))
	}
	for _, o := range strings.Fields("|| && == != < + - *") {
		for _, s := range []string{"x o @", "x o @)", "x o @;", "x o @* y", "x o @+ y", "x o @== y", "x o @&& y", "x o @|| y", "x o @= y", "x o @:= y", "x o @{}", "x o @if y {}", "x o @.y", "x o @, y", "x o y @z", "x o y @:= z", "x o y@: for z {}", "x o\n@", "x o -@", "x o (@)", "x o y.@", "f(x o @)", "if x o @{}", "x := y o @", "return x o @"} {
			wantFault(t, inFunc(strings.Replace(s, "o", o, 1)))
		}
	}
}

// TestEachTokenAnother takes, of each text that is one, each token away, once more, another one in its place or ahead of it, and the end.
func TestEachTokenAnother(t *testing.T) {
	s := newSlow()
	for _, text := range validTexts() {
		l, _, _ := scan.Scan(text)
		ways := [][]thread{s.start()}
		for i, x := range l {
			ways = append(ways, s.step(ways[i], x, i))
		}
		try := func(i int, changed []api.Token) {
			want, fault := s.on(ways[i], changed, i)
			hold(t, changed, want, fault)
		}
		for i, x := range l {
			try(i, l[:i])
			try(i, slices.Delete(slices.Clone(l), i, i+1))
			try(i, slices.Insert(slices.Clone(l), i, x))
			for _, w := range append(vocabulary(), "END") {
				try(i, slices.Insert(slices.Clone(l), i, word(w)))
				changed := slices.Clone(l)
				changed[i] = word(w)
				try(i, changed)
			}
		}
		for _, w := range append(vocabulary(), "END") {
			try(len(l), append(slices.Clone(l), word(w)))
		}
	}
}

// validTexts are all of the tables.
func validTexts() []string {
	var all []string
	for _, x := range files() {
		all = append(all, x[0])
	}
	for _, x := range slices.Concat(bodies(), exprs()) {
		all = append(all, inFunc(x[0]))
	}
	return all
}

// TestOddLists takes lists that no text has.
func TestOddLists(t *testing.T) {
	hold(t, nil, "", 0)
	hold(t, []api.Token{}, "", 0)
	hold(t, words("package a ; END")[:0], "", 0)
	hold(t, words("END"), "", 0)
	hold(t, words("END END"), "", 0)
	hold(t, words("; END"), "", 0)
	hold(t, words("END package a ; END"), "", 0)
	hold(t, words("package"), "", 1)
	hold(t, words("package a"), "", 2)
	hold(t, words("package a ;"), "", 3)
	hold(t, words("package a ; ;"), "", 4)
	hold(t, words("package a END"), "", 2)
	hold(t, words("package END"), "", 1)
	hold(t, words("package a ; END"), "file0(package1)", -1)
	hold(t, words("package a ; END END"), "", 4)
	hold(t, words("package a ; END ;"), "", 4)
	hold(t, words("package a ; END package a ; END"), "", 4)
	hold(t, words("package a ; END var x T ; END"), "", 4)
	hold(t, words("package a ; var x T END"), "", 6)
	hold(t, words("package a ; func f ( ) {"), "", 8)
	hold(t, words("package a ; func f ( ) { END"), "", 8)
	hold(t, words("package a ; func f ( ) { } END"), "", 9)
	hold(t, words("package a ; func f ( ) { x END"), "", 9)
	hold(t, words("package a ; func f ( ) { f ( END"), "", 10)
	hold(t, words("package a ; END")[1:], "", 0)
	hold(t, []api.Token{{}}, "", 0)
	hold(t, make([]api.Token, 5), "", 0)
	hold(t, append(words("package a ;"), api.Token{}), "", 3)
	hold(t, append(words("package a ; END"), api.Token{}), "", 4)
}

// TestKinds gives each token another Kind: a word is one only as a token of its Kind.
func TestKinds(t *testing.T) {
	s := newSlow()
	for _, text := range validTexts() {
		l, _, _ := scan.Scan(text)
		for i := range l {
			for kind := -1; kind <= 8; kind++ {
				changed := slices.Clone(l)
				changed[i].Kind = kind
				s.same(t, changed)
			}
		}
	}
	hold(t, []api.Token{{Kind: api.TName, Text: "package"}, word("a"), word(";"), word("END")}, "", 0)
	hold(t, []api.Token{{Kind: api.TOp, Text: "package"}, word("a"), word(";"), word("END")}, "", 0)
	hold(t, []api.Token{word("package"), {Kind: api.TName, Text: "package"}, word(";"), word("END")}, "file0(package1)", -1)
}

// TestWhatCountsOfAToken changes what does not: the place, the line, who wrote it, and the text of what has any.
func TestWhatCountsOfAToken(t *testing.T) {
	for _, text := range validTexts() {
		l, _, _ := scan.Scan(text)
		tree, _ := parse.Tokens(l)
		for i := range l {
			l[i].At, l[i].Line, l[i].Auto = -i, 1<<62-i, !l[i].Auto
			switch l[i].Kind {
			case api.TName, api.TInt, api.TString, api.TSemi, api.TEnd:
				l[i].Text = []string{"", "}", "package", "else", "\x00\xff"}[i%5]
			}
		}
		hold(t, l, tell(tree), -1)
	}
}

// TestStrewn takes lists of any tokens: there is an answer to each.
func TestStrewn(t *testing.T) {
	r := rand.New(rand.NewSource(11))
	s := newSlow()
	list := append(vocabulary(), "END")
	for range 20000 {
		l := words("package a ; func f ( ) {")[:r.Intn(9)]
		for range r.Intn(8) {
			x := word(list[r.Intn(len(list))])
			if r.Intn(4) == 0 {
				x = api.Token{Kind: r.Intn(10) - 1, Text: []string{"{", "if", "-", "", "a"}[r.Intn(5)], At: r.Int() - r.Int(), Line: r.Int() - r.Int()}
			}
			l = append(l, x)
		}
		s.same(t, l)
	}
}
