package shape_test

import (
	"slices"
	"strings"
	"testing"

	"recension/parse"
	"recension/scan"
	"recension/shape"
)

func inFunc(s string) string { return "package a\nfunc f() {" + s + "}" }

// files are the rows of the table of what a text is that stand in a file.
func files() [][2]string {
	return [][2]string{
		{"package a", "(file (package a))"},
		{"package long_Name9;", "(file (package long_Name9))"},
		{"package a\nimport b", "(file (package a) (import b))"},
		{"package a\nimport b\nimport c", "(file (package a) (import b) (import c))"},
		{"package a\nvar x T", "(file (package a) (var x (type T)))"},
		{"package a\nvar x T = 1", "(file (package a) (var x (type T) (int 1)))"},
		{"package a\nvar x q.T", "(file (package a) (var x (type T (name q))))"},
		{"package a\nvar x q.T = y", "(file (package a) (var x (type T (name q)) (name y)))"},
		{"package a\nconst c = 1", "(file (package a) (const c (int 1)))"},
		{"package a\nconst c = \"s\" + c", "(file (package a) (const c (binary + (string \"s\") (name c))))"},
		{"package a\ntype T struct {}", "(file (package a) (struct T))"},
		{"package a\ntype T struct {x int}", "(file (package a) (struct T (field x (type int))))"},
		{"package a\ntype T struct {\nx int\ny q.U\nz V\n}", "(file (package a) (struct T (field x (type int)) (field y (type U (name q))) (field z (type V))))"},
		{"package a\nfunc f() {}", "(file (package a) (func f (block)))"},
		{"package a\nfunc f() int {}", "(file (package a) (func f (type int) (block)))"},
		{"package a\nfunc f() q.R {}", "(file (package a) (func f (type R (name q)) (block)))"},
		{"package a\nfunc f(x int) {}", "(file (package a) (func f (param x (type int)) (block)))"},
		{"package a\nfunc f(x int, y q.T, z V) q.R {}", "(file (package a) (func f (param x (type int)) (param y (type T (name q))) (param z (type V)) (type R (name q)) (block)))"},
		{"package a\nfunc f(x int) T {x\ny}", "(file (package a) (func f (param x (type int)) (type T) (block (do (name x)) (do (name y)))))"},
		{
			"package a\nimport b\nimport c\nfunc f() {}\ntype T struct {}\nconst c = 1\nvar v T\nfunc g() {}\nvar w U\ntype U struct {}\nconst d = 2",
			"(file (package a) (import b) (import c) (func f (block)) (struct T) (const c (int 1)) (var v (type T)) (func g (block)) (var w (type U)) (struct U) (const d (int 2)))",
		},
	}
}

// bodies are those that stand in a func.
func bodies() [][2]string {
	return [][2]string{
		{"", ""},
		{"var x T", "(var x (type T))"},
		{"var x q.T = 1", "(var x (type T (name q)) (int 1))"},
		{"const c = x", "(const c (name x))"},
		{"{}", "(block)"},
		{"{x\n{y}\n{}}", "(block (do (name x)) (block (do (name y))) (block))"},
		{"x := 1", "(define x (int 1))"},
		{"x := y + f(1)", "(define x (binary + (name y) (call (name f) (int 1))))"},
		{"x", "(do (name x))"},
		{"x = 1", "(assign = (name x) (int 1))"},
		{"x.f = y.g", "(assign = (select f (name x)) (select g (name y)))"},
		{"if x {}", "(if (name x) (block))"},
		{"if x == 1 {y}", "(if (binary == (name x) (int 1)) (block (do (name y))))"},
		{"if x {} else {z}", "(if (name x) (block) (block (do (name z))))"},
		{"if x {} else if y {}", "(if (name x) (block) (if (name y) (block)))"},
		{"if x {} else if y {} else {}", "(if (name x) (block) (if (name y) (block) (block)))"},
		{"if x {} else {if y {}}", "(if (name x) (block) (block (if (name y) (block))))"},
		{"for x {}", "(for (name x) (block))"},
		{"for !x {y\nz}", "(for (unary ! (name x)) (block (do (name y)) (do (name z))))"},
		{"return", "(return)"},
		{"return x", "(return (name x))"},
		{"break", "(break)"},
		{"break L", "(break (label L))"},
		{"continue", "(continue)"},
		{"continue L", "(continue (label L))"},
		{"L: for x {}", "(label L (for (name x) (block)))"},
		{"L: for x {M: for y {break L}\ncontinue L}", "(label L (for (name x) (block (label M (for (name y) (block (break (label L))))) (continue (label L)))))"},
		{"x\ny\nreturn\nx := y", "(do (name x)) (do (name y)) (return) (define x (name y))"},
	}
}

// exprs are Exprs alone.
func exprs() [][2]string {
	return [][2]string{
		{"x", "(name x)"},
		{"true", "(name true)"},
		{"_", "(name _)"},
		{"0", "(int 0)"},
		{"999999999999", "(int 999999999999)"},
		{"\"\"", "(string \"\")"},
		{"\"s\"", "(string \"s\")"},
		{"\"a b\"", "(string \"a b\")"},
		{"\"\t é☃ // \"", "(string \"\t é☃ // \")"},
		{"\") (name x\"", "(string \") (name x\")"},
		{"\"\\\"", "(string \"\\\")"},
		{"-x", "(unary - (name x))"},
		{"!x", "(unary ! (name x))"},
		{"- - !x", "(unary - (unary - (unary ! (name x))))"},
		{"x || y", "(binary || (name x) (name y))"},
		{"x && y", "(binary && (name x) (name y))"},
		{"x == y", "(binary == (name x) (name y))"},
		{"x != y", "(binary != (name x) (name y))"},
		{"x < y", "(binary < (name x) (name y))"},
		{"x + y", "(binary + (name x) (name y))"},
		{"x - -y", "(binary - (name x) (unary - (name y)))"},
		{"x * y", "(binary * (name x) (name y))"},
		{"x - y - z", "(binary - (binary - (name x) (name y)) (name z))"},
		{"x - (y - z)", "(binary - (name x) (paren (binary - (name y) (name z))))"},
		{"x || y && z == v + w * 1", "(binary || (name x) (binary && (name y) (binary == (name z) (binary + (name v) (binary * (name w) (int 1))))))"},
		{"(x)", "(paren (name x))"},
		{"((x))", "(paren (paren (name x)))"},
		{"f()", "(call (name f))"},
		{"f(1)", "(call (name f) (int 1))"},
		{"f(1, x, \"s\")", "(call (name f) (int 1) (name x) (string \"s\"))"},
		{"f(x)(y)()", "(call (call (call (name f) (name x)) (name y)))"},
		{"f((x), g())", "(call (name f) (paren (name x)) (call (name g)))"},
		{"x.f", "(select f (name x))"},
		{"x.f.g", "(select g (select f (name x)))"},
		{"x.f(1).g()", "(call (select g (call (select f (name x)) (int 1))))"},
		{"-x.f * 1.g", "(binary * (unary - (select f (name x))) (select g (int 1)))"},
	}
}

// valid answers texts that have a shape, each with it.
func valid() [][2]string {
	all := files()
	inBlock := func(s string) string {
		return "(file (package a) (func f (block" + strings.TrimRight(" "+s, " ") + ")))"
	}
	for _, x := range bodies() {
		all = append(all, [2]string{inFunc(x[0]), inBlock(x[1])})
	}
	for _, x := range exprs() {
		all = append(all,
			[2]string{inFunc(x[0]), inBlock("(do " + x[1] + ")")},
			[2]string{inFunc("x := " + x[0]), inBlock("(define x " + x[1] + ")")},
			[2]string{inFunc("x = " + x[0]), inBlock("(assign = (name x) " + x[1] + ")")},
			[2]string{inFunc(x[0] + " = y"), inBlock("(assign = " + x[1] + " (name y))")},
			[2]string{inFunc("return " + x[0]), inBlock("(return " + x[1] + ")")},
			[2]string{inFunc("for " + x[0] + " {}"), inBlock("(for " + x[1] + " (block))")},
			[2]string{inFunc("if y {} else if " + x[0] + " {}"), inBlock("(if (name y) (block) (if " + x[1] + " (block)))")},
			[2]string{inFunc("f(y, " + x[0] + ")"), inBlock("(do (call (name f) (name y) " + x[1] + "))")},
			[2]string{"package a\nvar x T = (" + x[0] + ")", "(file (package a) (var x (type T) (paren " + x[1] + ")))"},
			[2]string{"package a\nconst x = " + x[0], "(file (package a) (const x " + x[1] + "))"},
		)
	}
	return all
}

// invalid are texts that have none: for a fault of a word, of the grammar, of a nesting, or for want of anything.
func invalid() []string {
	return []string{
		"", " ", "\n", "\n\n\t ", ";", "// package a", "x", "1", "package", "package;", "package 1", "package \"a\"", "package package",
		"?", "package a ?", "package a // \x00", "\xff", "package a\xff", "package a // \xc3", "package a\r\n", "package a\nvar x T = 01", "package a\nvar x T = 1y", "package a\nvar x T = 1234567890123",
		"package a\nvar x T = \"s", "package a\nvar x T = \"s\n\"", "package a\nvar é T", "package a & b", "package " + strings.Repeat("n", 25), "package a /",
		"package a b", "package a.b", "package a {}", "package a\nx", "package a\npackage a", "package a\nimport", "package a\nimport \"b\"", "package a\nvar x T\nimport b",
		"package a\nvar x", "package a\nvar x = 1", "package a\nvar x T =", "package a\nvar x T = 1 2", "package a\nvar x q.", "package a\nconst c", "package a\nconst c T = 1", "package a\ntype T int", "package a\ntype T struct {x}",
		"package a\nfunc f", "package a\nfunc f()", "package a\nfunc f(x) {}", "package a\nfunc f(x int,) {}", "package a\nfunc f()\n{}", "package a\nfunc f() {", "package a\nfunc f() {}}", "package a\nfunc f() {}(",
		inFunc("x y"), inFunc("x +"), inFunc("x :="), inFunc("x.y := 1"), inFunc("= 1"), inFunc("x, y = 1"), inFunc("()"), inFunc("(x"), inFunc("x)"), inFunc("f(x,)"), inFunc("x."), inFunc("-"), inFunc("x !y"),
		inFunc("if x"), inFunc("if {}"), inFunc("if x\n{}"), inFunc("if x {}\nelse {}"), inFunc("if x {} else"), inFunc("for {}"), inFunc("x: y"), inFunc("break 1"), inFunc("else {}"), inFunc("{"), inFunc("}"),
		inFunc(strings.Repeat("(", 40) + "x" + strings.Repeat(")", 40)), inFunc(strings.Repeat("{", 40) + strings.Repeat("}", 40)), inFunc(strings.Repeat("-", 40) + "x"), inFunc(strings.Repeat("f(", 40) + strings.Repeat(")", 40)),
		inFunc("if x {}" + strings.Repeat(" else if x {}", 39)), inFunc(strings.Repeat("(", 900) + strings.Repeat(")", 900)), "package a\nconst c = " + strings.Repeat("(", 41) + "1" + strings.Repeat(")", 41),
		"package a" + strings.Repeat(" ", 2000-len("package a")+1), "package a" + strings.Repeat("\n", 5000), strings.Repeat("package a\n", 1000), strings.Repeat("(", 1<<20), strings.Repeat("package a;", 1<<17), strings.Repeat(" ", 1<<20),
	}
}

func wantOf(t *testing.T, s, want string, wantOk bool) {
	t.Helper()
	if got, ok := shape.Of(s); got != want || ok != wantOk {
		t.Errorf("P12.1: Of(%q) is %q, %v, not %q, %v", short(s), short(got), ok, short(want), wantOk)
	}
}

func TestOf(t *testing.T) {
	for _, x := range valid() {
		wantOf(t, x[0], x[1], true)
		tree, tokens, fault := parse.Text(x[0])
		if fault >= 0 {
			t.Errorf("parse has a fault in %q", x[0])
		}
		wantText(t, tree, tokens, x[1])
		same(t, tree, tokens)
	}
}

// slowOf is the slow way of what parse tells.
func slowOf(s string) (string, bool) {
	tree, tokens, fault := parse.Text(s)
	if fault >= 0 {
		return "", false
	}
	return slow(tree, tokens), true
}

// TestOfAsParseTells cuts off texts at each byte, which leaves some with a fault, and puts other bytes in the place of each byte, and ahead of it.
func TestOfAsParseTells(t *testing.T) {
	known := func(s string) {
		t.Helper()
		want, ok := slowOf(s)
		wantOf(t, s, want, ok)
	}
	for _, x := range valid() {
		for i := range x[0] {
			known(x[0][:i])
			known(x[0][i:])
		}
	}
	text := "package a\nimport q\nvar x q.T = -f(1, y)\ntype T struct {x int;y q.T}\nfunc f(x int) T {\n\tif x == 1 {x := 2} else {return x}\n\tL: for !x {break L}\n}\n"
	for i := range text {
		for _, b := range []byte("x1 \n;(){}.,:=-!\"/\x00\xff") {
			known(text[:i] + string([]byte{b}) + text[i:])
			known(text[:i] + string([]byte{b}) + text[i+1:])
		}
		known(text[:i] + text[i+1:])
	}
}

func TestOfNone(t *testing.T) {
	for _, s := range invalid() {
		wantOf(t, s, "", false)
	}
}

// TestOfNests has as many nestings as there may be, and a text as long as it may be.
func TestOfNests(t *testing.T) {
	deep := func(open, body, shut string, count int) string {
		return strings.Repeat(open, count) + body + strings.Repeat(shut, count)
	}
	in := func(s string) string { return "(file (package a) (func f (block " + s + ")))" }
	wantOf(t, inFunc(deep("(", "x", ")", 39)), in("(do "+deep("(paren ", "(name x)", ")", 39)+")"), true)
	wantOf(t, inFunc(deep("-", "x", "", 39)), in("(do "+deep("(unary - ", "(name x)", ")", 39)+")"), true)
	wantOf(t, inFunc(deep("f(", "x", ")", 39)), in("(do "+deep("(call (name f) ", "(name x)", ")", 39)+")"), true)
	wantOf(t, inFunc(deep("{", "x", "}", 39)), in(deep("(block ", "(do (name x))", ")", 39)), true)
	wantOf(t, inFunc(deep("if x {", "y", "}", 39)), in(deep("(if (name x) (block ", "(do (name y))", "))", 39)), true)
	wantOf(t, inFunc("if x {}"+strings.Repeat(" else if x {}", 38)), in(strings.Repeat("(if (name x) (block) ", 38)+"(if (name x) (block)"+strings.Repeat(")", 39)), true)
	wantOf(t, "package a\nconst c = "+deep("(", "1", ")", 40), "(file (package a) (const c "+deep("(paren ", "(int 1)", ")", 40)+"))", true)
	wantOf(t, "package a"+strings.Repeat(" ", 2000-len("package a")), "(file (package a))", true)
	// No nesting, but a deep tree: each of them stands in the next one.
	count := (2000 - len("package a\nconst c = x")) / 2
	wantOf(t, "package a\nconst c = x"+strings.Repeat("+x", count), "(file (package a) (const c "+deep("(binary + ", "(name x)", " (name x))", count)+"))", true)
	wantOf(t, "package a\nconst c = x"+strings.Repeat("()", count), "(file (package a) (const c "+deep("(call ", "(name x)", ")", count)+"))", true)
	wantOf(t, "package a\nconst c = x"+strings.Repeat(".x", count), "(file (package a) (const c "+deep("(select x ", "(name x)", ")", count)+"))", true)
}

// groups are texts of one shape each; none of one has the shape of another.
func groups() [][]string {
	return [][]string{
		{
			"package a\nvar x int", "package a\nvar x int\n", "package a;var x int;", "package a;var x int", "package  a ; // c\n\nvar x\tint", "package a\nvar\n\tx  int // c",
			"\n\n\tpackage\ta\n\n;\n;;var x int // \"\n// c\n", "// é\npackage a// package b\nvar x int;;;", "package a;;;\n;var x int;\n;\n", "package\n// b\na;var // y\nx int",
		},
		{"package b\nvar x int", "package b;;var x int"},
		{"package a\nvar y int"},
		{"package a\nvar x int2"},
		{"package a\nvar x Int"},
		{"package a\nvar x a.int", "package a\nvar x a.\nint", "package a\nvar x a . int"},
		{"package a\nvar x int = 1", "package a\nvar x int=1", "package a\nvar x int = // 2\n\n1"},
		{"package a\nvar x int = 2"},
		{"package a\nvar x int = (1)", "package a\nvar x int=( 1 )"},
		{"package a\nvar x int = ((1))"},
		{"package a\nvar x int = -1", "package a\nvar x int = - 1", "package a\nvar x int = -\n1"},
		{"package a\nvar x int = \"1\""},
		{"package a\nvar x int = \" 1\""},
		{"package a\nvar x int = \"1 \""},
		{"package a\nvar x int = \"1//\"", "package a\nvar x int = \"1//\"//"},
		{"package a\nconst x = 1"},
		{"package a", "package a;", "package a\n", "package a // b", "package a;;;", "package a\n// import b\n"},
		{"package a\nimport b"},
		{"package a\nimport b\nimport c", "package a;import b;import c", "package a\nimport b;;\n;import c"},
		{"package a\nimport c\nimport b"},
		// A file's Kids stand in the text's order.
		{"package a\nvar x int\nvar y int"},
		{"package a\nvar y int\nvar x int"},
		{"package a\nvar x int\nconst c = 1\nfunc f() {}\ntype T struct {}", "package a\nvar x int;const c = 1;func f() {\n}\n\ntype T struct {;}\n"},
		{"package a\nfunc f() {}\ntype T struct {}\nconst c = 1\nvar x int", "package a;func f() {};type T struct {};const c = 1;var x int;"},
		{"package a\ntype T struct {\n}\nvar x int\nfunc f() {;\n;}\nconst c = 1;", "package a\ntype T struct {}\nvar x int\nfunc f() {}\nconst c = 1"},
		{"package a\nvar x int\nconst c = 1"},
		{"package a\nconst c = 1\nvar x int"},
		{"package a\nvar x int\nfunc f() {}"},
		{"package a\nfunc f() {}\nvar x int"},
		{"package a\ntype T struct {x int;y int}", "package a\ntype T struct {\n\tx int\n\ty int\n}\n", "package a\ntype T struct {;;x int;;y int;}"},
		{"package a\ntype T struct {y int;x int}"},
		{inFunc(""), inFunc(";"), inFunc("\n"), inFunc("; ;\n;"), inFunc("// x\n"), "package a\nfunc f (\n) {}"},
		{inFunc("x"), inFunc("x;"), inFunc(";x"), inFunc("\n\tx\n"), inFunc("x // y\n"), inFunc("; ; x ; ;"), inFunc("\n\nx\n\n;\n")},
		{inFunc("(x)"), inFunc("( x )"), inFunc("(\nx)")},
		{inFunc("{x}"), inFunc("{\nx\n}\n"), inFunc("{;x};")},
		{inFunc("{}"), inFunc("{\n}")},
		{inFunc("{{}}")},
		{inFunc("{};{}"), inFunc("{}\n{}"), inFunc("{};;;{;}")},
		{inFunc("x;y"), inFunc("x\ny"), inFunc("x // c\n// c\ny"), inFunc("x;;\n;y")},
		{inFunc("y;x")},
		{inFunc("x.y"), inFunc("x . y"), inFunc("x.// c\ny")},
		{inFunc("(x).y")},
		{inFunc("xy"), inFunc("xy ")},
		{inFunc("x(y)"), inFunc("x (y)"), inFunc("x(\n\ny)")},
		{inFunc("x;(y)"), inFunc("x\n(y)"), inFunc("x // c\n(y)")},
		{inFunc("x((y))")},
		{inFunc("x = y"), inFunc("x=y"), inFunc("x =\ny")},
		{inFunc("x == y"), inFunc("x==y")},
		{inFunc("x := y"), inFunc("x:=y")},
		{inFunc("x - y"), inFunc("x-y"), inFunc("x -y")},
		{inFunc("x;-y"), inFunc("x\n-y"), inFunc("x\n- y")},
		{inFunc("x - -y"), inFunc("x--y"), inFunc("x- - y")},
		{inFunc("x + y * z"), inFunc("x+y*z")},
		{inFunc("(x + y) * z")},
		{inFunc("x + (y * z)")},
		{inFunc("x * y + z")},
		{inFunc("x + y + z"), inFunc("x+\ny+\nz")},
		{inFunc("(x + y) + z")},
		{inFunc("x + (y + z)")},
		{inFunc("return;x"), inFunc("return\nx"), inFunc("return // c\nx")},
		{inFunc("return x"), inFunc("return\tx")},
		{inFunc("break L")},
		{inFunc("break;L"), inFunc("break\nL")},
		{inFunc("continue L")},
		{inFunc("if x {}")},
		{inFunc("if x {} else {}"), inFunc("if x {\n} else {\n}"), inFunc("if x{}else{;}")},
		{inFunc("if x {};{}"), inFunc("if x {}\n{}")},
		{inFunc("if x {} else if y {}")},
		{inFunc("if x {} else {if y {}}"), inFunc("if x {} else {\n\tif y {\n\t}\n}")},
		{inFunc("if x {};if y {}")},
		{inFunc("for x {}")},
		{inFunc("L: for x {}"), inFunc("L : for x {}"), inFunc("L:for x{}"), inFunc("L: // c\nfor x {}")},
		{inFunc("M: for x {}")},
		{inFunc("f(\"x\", \"y\")"), inFunc("f(\"x\",\"y\")"), inFunc("f(\n\"x\", // c\n\"y\")")},
		{inFunc("f(\"x, y\")")},
		{inFunc("f(\"x\")")},
		{"package a\nfunc f(x int) {}"},
		{"package a\nfunc f() int {}"},
		{"package a\nfunc f(x int, y int) {}", "package a;func f(x int,\ny int){\n}"},
	}
}

func wantSame(t *testing.T, a, b string, want bool) {
	t.Helper()
	if got := shape.Same(a, b); got != want {
		t.Errorf("P12.1: Same(%q, %q) is %v", short(a), short(b), got)
	}
	if got := shape.Same(b, a); got != want {
		t.Errorf("P12.1: Same(%q, %q) is %v", short(b), short(a), got)
	}
}

// TestSame takes each two of the texts.
func TestSame(t *testing.T) {
	for i, one := range groups() {
		for j, other := range groups() {
			for _, a := range one {
				for _, b := range other {
					wantSame(t, a, b, i == j)
				}
			}
		}
	}
}

// TestSameAsOf takes each two of the texts whose shape is written out.
func TestSameAsOf(t *testing.T) {
	all := valid()
	for i := 0; i < len(all); i += 3 {
		for j := 0; j < len(all); j += 5 {
			wantSame(t, all[i][0], all[j][0], all[i][1] == all[j][1])
		}
		wantSame(t, all[i][0], all[i][0], true)
		wantSame(t, all[i][0], "// c\n"+strings.ReplaceAll(all[i][0], "\n", " // c\n\n"), true)
	}
}

// TestSameOfNone has one that is none, and both: the same one, two of one fault, and two of others.
func TestSameOfNone(t *testing.T) {
	all := invalid()
	for i, a := range all {
		wantSame(t, a, a, false)
		for _, b := range []string{"package a", "package a\nvar x int", inFunc("x")} {
			wantSame(t, a, b, false)
		}
		for j := range 8 {
			wantSame(t, a, all[(i+j)%len(all)], false)
		}
	}
	wantSame(t, "package a b", "package a c", false)
	wantSame(t, "package a b", "package  a b", false)
	wantSame(t, "", "", false)
	wantSame(t, "", " ", false)
}

// TestSameOfOneToken takes of each text each token away, and puts another one in its place: the shape is another one, or there is none. Semicolons stay.
func TestSameOfOneToken(t *testing.T) {
	var all []string
	for _, x := range files() {
		all = append(all, x[0])
	}
	for _, x := range slices.Concat(bodies(), exprs()) {
		all = append(all, inFunc(x[0]))
	}
	for _, s := range all {
		tokens, _, _ := scan.Scan(s)
		for _, y := range tokens {
			if y.Text == "" || y.Text == ";" {
				continue
			}
			ahead, behind := s[:y.At], s[y.At+len(y.Text):]
			for _, w := range []string{"", "other", "77", "\"other\"", "!", "-", "*", "<", "||", "(", ")", "{", "}", ".", ",", "=", ":=", "if", "else", "return", "struct"} {
				if w != y.Text {
					wantSame(t, s, ahead+" "+w+" "+behind, false)
				}
			}
			wantSame(t, s, ahead+" "+y.Text+behind, true)
		}
	}
}

// Any texts may come in; run with -fuzz to look further.
func FuzzOf(f *testing.F) {
	for _, group := range groups() {
		f.Add(group[0], group[len(group)-1])
	}
	f.Fuzz(func(t *testing.T, a, b string) {
		x, isX := slowOf(a)
		y, isY := slowOf(b)
		wantOf(t, a, x, isX)
		wantOf(t, b, y, isY)
		wantSame(t, a, b, isX && isY && x == y)
		wantSame(t, a, a, isX)
	})
}
