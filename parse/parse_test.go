package parse_test

import (
	"slices"
	"strings"
	"testing"

	"recension/api"
	"recension/node"
	"recension/parse"
	"recension/scan"
)

func ops() []string {
	return strings.Fields("( ) { } , . : := = == != < + - * ! && ||")
}

func keys() []string {
	return strings.Fields("package import var const type struct func if else for return break continue")
}

// vocabulary has each word of the language, and one of those of which there are many.
func vocabulary() []string {
	return slices.Concat([]string{"a", "1", `"s"`, ";"}, ops(), keys())
}

// word is a token that stands alone; END is the last one.
func word(s string) api.Token {
	switch {
	case s == "END":
		return api.Token{Kind: api.TEnd}
	case s == ";":
		return api.Token{Kind: api.TSemi, Text: s}
	case slices.Contains(ops(), s):
		return api.Token{Kind: api.TOp, Text: s}
	case slices.Contains(keys(), s):
		return api.Token{Kind: api.TKey, Text: s}
	case s[0] == '"':
		return api.Token{Kind: api.TString, Text: s}
	case s[0] >= '0' && s[0] <= '9':
		return api.Token{Kind: api.TInt, Text: s}
	}
	return api.Token{Kind: api.TName, Text: s}
}

func words(s string) []api.Token {
	var l []api.Token
	for _, w := range strings.Fields(s) {
		l = append(l, word(w))
	}
	return l
}

func textOf(l []api.Token) string {
	var told []string
	for _, t := range l[:min(len(l), 100)] {
		switch t.Kind {
		case api.TEnd:
			told = append(told, "END")
		default:
			told = append(told, t.Text)
		}
	}
	return strings.Join(told, " ")
}

// wantText wants the tree, or (of a fault that is not negative) the byte.
func wantText(t *testing.T, s, want string, wantFault int) {
	t.Helper()
	tree, tokens, fault := parse.Text(s)
	if fault != wantFault || fault < 0 && tell(tree) != want {
		t.Fatalf("P11.2: Text(%q) is %s, %d, not %s, %d", s, tell(tree), fault, want, wantFault)
	}
	if fault >= 0 && (tree.Kind != 0 || tree.Tok != 0 || tree.Kids != nil || tokens != nil) {
		t.Fatalf("P0.2: Text(%q) has a fault, the tree %#v and %d tokens", s, tree, len(tokens))
	}
	scanned, _, _ := scan.Scan(s)
	if fault < 0 && !slices.Equal(tokens, scanned) {
		t.Fatalf("P11.2: Text(%q) has the tokens %#v", s, tokens)
	}
}

// wantTree wants the tree of Text, of Tokens, and of the slow way.
func wantTree(t *testing.T, s, want string) {
	t.Helper()
	wantText(t, s, want, -1)
	l, _, _ := scan.Scan(s)
	hold(t, l, want, -1)
	if told, fault := newSlow().run(l); told != want || fault != -1 {
		t.Errorf("the slow way of %q is %s, %d, not %s", s, told, fault, want)
	}
}

// wantBody wants the statements of a func; its first token is the 8th.
func wantBody(t *testing.T, s, want string) {
	t.Helper()
	if want != "" {
		want = "(" + want + ")"
	}
	wantTree(t, inFunc(s), "file0(package1 func4(block7"+want+"))")
}

func inFunc(s string) string { return "package a\nfunc f() {" + s + "}" }

// wantFault wants the fault where the `@` stands.
func wantFault(t *testing.T, marked string) {
	t.Helper()
	s := strings.Replace(marked, "@", "", 1)
	at := strings.Index(marked, "@")
	wantText(t, s, "", at)
	l, _, fault := scan.Scan(s)
	if fault >= 0 {
		return
	}
	told, fault := newSlow().run(l)
	if fault < 0 || l[fault].At != at {
		t.Errorf("the slow way of %q is %q, %d", marked, told, fault)
	}
	hold(t, l, "", fault)
}

// files are the rows of the chapter's table that stand in a file.
func files() [][2]string {
	return [][2]string{
		{"package a", "file0(package1)"},
		{"package a;", "file0(package1)"},
		{"package a\nimport b", "file0(package1 import4)"},
		{"package a\nimport b\nimport c", "file0(package1 import4 import7)"},
		{"package a\nvar x T", "file0(package1 var4(type5))"},
		{"package a\nvar x T = 1", "file0(package1 var4(type5 int7))"},
		{"package a\nvar x q.T", "file0(package1 var4(type7(name5)))"},
		{"package a\nvar x q.T = y", "file0(package1 var4(type7(name5) name9))"},
		{"package a\nvar x T = y + z", "file0(package1 var4(type5 binary8(name7 name9)))"},
		{"package a\nconst c = 1", "file0(package1 const4(int6))"},
		{"package a\nconst c = \"s\" + c", "file0(package1 const4(binary7(string6 name8)))"},
		{"package a\ntype T struct {}", "file0(package1 struct4)"},
		{"package a\ntype T struct {x int}", "file0(package1 struct4(field7(type8)))"},
		{"package a\ntype T struct {x q.T}", "file0(package1 struct4(field7(type10(name8))))"},
		{"package a\ntype T struct {\nx int\ny q.T\nz T\n}", "file0(package1 struct4(field7(type8) field10(type13(name11)) field15(type16)))"},
		{"package a\nfunc f() {}", "file0(package1 func4(block7))"},
		{"package a\nfunc f() int {}", "file0(package1 func4(type7 block8))"},
		{"package a\nfunc f() q.R {}", "file0(package1 func4(type9(name7) block10))"},
		{"package a\nfunc f(x int) {}", "file0(package1 func4(param6(type7) block9))"},
		{"package a\nfunc f(x int) T {}", "file0(package1 func4(param6(type7) type9 block10))"},
		{"package a\nfunc f(x int, y q.T, z int) q.R {}", "file0(package1 func4(param6(type7) param9(type12(name10)) param14(type15) type19(name17) block20))"},
		{"package a\nfunc f(x int, y int) {x\ny}", "file0(package1 func4(param6(type7) param9(type10) block12(do13(name13) do15(name15))))"},
	}
}

// bodies are those that stand in a func.
func bodies() [][2]string {
	return [][2]string{
		{"", ""},
		{"var x T", "var9(type10)"},
		{"var x q.T = 1", "var9(type12(name10) int14)"},
		{"const c = x", "const9(name11)"},
		{"{}", "block8"},
		{"{x}", "block8(do9(name9))"},
		{"{{}}", "block8(block9)"},
		{"{x\n{y}\nz}", "block8(do9(name9) block11(do12(name12)) do15(name15))"},
		{"x := 1", "define8(int10)"},
		{"x := y + f(1)", "define8(binary11(name10 call13(name12 int14)))"},
		{"x", "do8(name8)"},
		{"1", "do8(int8)"},
		{"\"s\"", "do8(string8)"},
		{"(x)", "do8(paren8(name9))"},
		{"-x", "do8(unary8(name9))"},
		{"!x", "do8(unary8(name9))"},
		{"x + y", "do8(binary9(name8 name10))"},
		{"f()", "do8(call9(name8))"},
		{"f(1)", "do8(call9(name8 int10))"},
		{"f(1, x, \"s\")", "do8(call9(name8 int10 name12 string14))"},
		{"x.f", "do8(select10(name8))"},
		{"x.f()", "do8(call11(select10(name8)))"},
		{"(x + y).f()", "do8(call15(select14(paren8(binary10(name9 name11)))))"},
		{"x = 1", "assign9(name8 int10)"},
		{"x.f = y.g", "assign11(select10(name8) select14(name12))"},
		{"f() = x + y", "assign11(call9(name8) binary13(name12 name14))"},
		{"1 = -x", "assign9(int8 unary10(name11))"},
		{"x + y = z", "assign11(binary9(name8 name10) name12)"},
		{"(x) = z", "assign11(paren8(name9) name12)"},
		{"if x {}", "if8(name9 block10)"},
		{"if x == 1 {y}", "if8(binary10(name9 int11) block12(do13(name13)))"},
		{"if x {} else {}", "if8(name9 block10 block13)"},
		{"if x {y} else {z}", "if8(name9 block10(do11(name11)) block14(do15(name15)))"},
		{"if x {} else if y {}", "if8(name9 block10 if13(name14 block15))"},
		{"if x {} else if y {} else {}", "if8(name9 block10 if13(name14 block15 block18))"},
		{"if x {} else if y {} else if z {}", "if8(name9 block10 if13(name14 block15 if18(name19 block20)))"},
		{"if x {if y {} else {}}", "if8(name9 block10(if11(name12 block13 block16)))"},
		{"if x {} else {if y {}}", "if8(name9 block10 block13(if14(name15 block16)))"},
		{"for x {}", "for8(name9 block10)"},
		{"for !x {y\nz}", "for8(unary9(name10) block11(do12(name12) do14(name14)))"},
		{"return", "return8"},
		{"return x", "return8(name9)"},
		{"return -x == f()", "return8(binary11(unary9(name10) call13(name12)))"},
		{"break", "break8"},
		{"break L", "break8(label9)"},
		{"continue", "continue8"},
		{"continue L", "continue8(label9)"},
		{"for x {break\nbreak L\ncontinue\ncontinue L\nreturn}", "for8(name9 block10(break11 break13(label14) continue16 continue18(label19) return21))"},
		{"L: for x {}", "label8(for10(name11 block12))"},
		{"L: for x {M: for y {break L}}", "label8(for10(name11 block12(label13(for15(name16 block17(break18(label19)))))))"},
		{"x\ny", "do8(name8) do10(name10)"},
		{"x := y\nx = z\nvar v T\nconst c = 1\nreturn", "define8(name10) assign13(name12 name14) var17(type18) const21(int23) return25"},
	}
}

// exprs are Exprs alone, as statements.
func exprs() [][2]string {
	return [][2]string{
		{"--x", "unary8(unary9(name10))"},
		{"!!x", "unary8(unary9(name10))"},
		{"!-!x", "unary8(unary9(unary10(name11)))"},
		{"-x.f", "unary8(select11(name9))"},
		{"-f(x)", "unary8(call10(name9 name11))"},
		{"!x.f().g", "unary8(select15(call12(select11(name9))))"},
		{"-(x)", "unary8(paren9(name10))"},
		{"-(x)(y)", "unary8(call12(paren9(name10) name13))"},
		{"-x + y", "binary10(unary8(name9) name11)"},
		{"-x * -y", "binary10(unary8(name9) unary11(name12))"},
		{"x - -y", "binary9(name8 unary10(name11))"},
		{"x - - - y", "binary9(name8 unary10(unary11(name12)))"},
		{"!x == y", "binary10(unary8(name9) name11)"},
		{"a || !b && c", "binary9(name8 binary12(unary10(name11) name13))"},
		{"-a.b * c", "binary12(unary8(select11(name9)) name13)"},
		{"(x)", "paren8(name9)"},
		{"((x))", "paren8(paren9(name10))"},
		{"(x + y) * z", "binary13(paren8(binary10(name9 name11)) name14)"},
		{"x * (y + z)", "binary9(name8 paren10(binary12(name11 name13)))"},
		{"a - (b - c) - d", "binary15(binary9(name8 paren10(binary12(name11 name13))) name16)"},
		{"(-x)", "paren8(unary9(name10))"},
		{"(x)(y)", "call11(paren8(name9) name12)"},
		{"(x).y", "select12(paren8(name9))"},
		{"f()()", "call11(call9(name8))"},
		{"f(1)(2)(3)", "call15(call12(call9(name8 int10) int13) int16)"},
		{"f(g(x), h())", "call9(name8 call11(name10 name12) call16(name15))"},
		{"f(x + y, -z, (w))", "call9(name8 binary11(name10 name12) unary14(name15) paren17(name18))"},
		{"f((x))", "call9(name8 paren10(name11))"},
		{"x.f.g", "select12(select10(name8))"},
		{"x.f.g.h()", "call15(select14(select12(select10(name8))))"},
		{"x.f().g()", "call15(select14(call11(select10(name8))))"},
		{"f().g.h(x)(y)", "call18(call15(select14(select12(call9(name8))) name16) name19)"},
		{"1(2)", "call9(int8 int10)"},
		{"\"s\".f", "select10(string8)"},
		{"1.f", "select10(int8)"},
		{"a + b + c", "binary11(binary9(name8 name10) name12)"},
		{"a + b * c + d", "binary13(binary9(name8 binary11(name10 name12)) name14)"},
		{"a * b + c * d", "binary11(binary9(name8 name10) binary13(name12 name14))"},
		{"a || b && c == d + e * f", "binary9(name8 binary11(name10 binary13(name12 binary15(name14 binary17(name16 name18)))))"},
		{"a * b + c == d && e || f", "binary17(binary15(binary13(binary11(binary9(name8 name10) name12) name14) name16) name18)"},
		{"a * b || c * d", "binary11(binary9(name8 name10) binary13(name12 name14))"},
		{"a < b < c", "binary11(binary9(name8 name10) name12)"},
		{"a.b + f(c) * d.e", "binary11(select10(name8) binary16(call13(name12 name14) select19(name17)))"},
	}
}

func TestFiles(t *testing.T) {
	for _, x := range files() {
		wantTree(t, x[0], x[1])
	}
}

func TestBodies(t *testing.T) {
	for _, x := range bodies() {
		wantBody(t, x[0], x[1])
	}
}

func TestExprs(t *testing.T) {
	for _, x := range exprs() {
		wantBody(t, x[0], "do8("+x[1]+")")
	}
}

// TestWhereAnExprStands takes each Expr to each place that has one.
func TestWhereAnExprStands(t *testing.T) {
	s := newSlow()
	for _, x := range exprs() {
		for _, place := range []string{
			"x := ?", "x = ?", "? = x", "var x T = ?", "const x = ?", "return ?", "if ? {}", "for ? {}", "L: for ? {}",
			"if x {} else if ? {}", "(?)", "f(?)", "f(?, x)", "f(x, ?)", "-(?)", "{?}", "x\n?\nx",
		} {
			if body := inFunc(strings.Replace(place, "?", x[0], 1)); !s.sameText(t, body) {
				t.Errorf("P11.1: %q has a fault", body)
			}
		}
		for _, place := range []string{"var x T = ?", "const x = ?", "const x = ?\nconst y = ?"} {
			if decl := "package a\n" + strings.ReplaceAll(place, "?", x[0]); !s.sameText(t, decl) {
				t.Errorf("P11.1: %q has a fault", decl)
			}
		}
	}
}

// TestOrder takes each order of up to five declarations of a file: they stand in the text's.
func TestOrder(t *testing.T) {
	wantTree(t, "package a\nfunc f() {}\ntype T struct {}\nconst c = 1\nvar v T",
		"file0(package1 func4(block7) struct11 const17(int19) var22(type23))")
	wantTree(t, "package a\nimport b\nimport c\nfunc f() {}\nvar v T\nfunc g() {}\nvar w T",
		"file0(package1 import4 import7 func10(block13) var17(type18) func21(block24) var28(type29))")
	decls := []string{"var x T;", "const x = 1;", "type x struct {};", "func x() {};"}
	kinds := []string{"var", "const", "struct", "func"}
	s := newSlow()
	var all func(text, want string, count int)
	all = func(text, want string, count int) {
		if !s.sameText(t, text) {
			t.Errorf("P11.1: %q has a fault", text)
		}
		tree, _, _ := parse.Text(text)
		if got := kidsOf(tree); got != want {
			t.Errorf("P11.1: %q has %s, not %s", text, got, want)
		}
		for i := range decls {
			if count > 0 {
				all(text+decls[i], want+" "+kinds[i], count-1)
			}
		}
	}
	all("package a;", "package", 5)
	all("package a;import b;import c;", "package import import", 3)
}

// kidsOf tells the names of the Kinds of a node's Kids, and where one stands ahead of one of an earlier token.
func kidsOf(n api.Node) string {
	var told []string
	last := 0
	for _, kid := range n.Kids {
		if kid.Tok <= last {
			told = append(told, "behind")
		}
		last = kid.Tok
		told = append(told, node.Name(kid.Kind))
	}
	return strings.Join(told, " ")
}

// TestRanks takes each two operators.
func TestRanks(t *testing.T) {
	ranks := map[string]int{"||": 1, "&&": 2, "==": 3, "!=": 3, "<": 3, "+": 4, "-": 4, "*": 5}
	for a, rankA := range ranks {
		for b, rankB := range ranks {
			want := "do8(binary11(binary9(name8 name10) name12))"
			if rankB > rankA {
				want = "do8(binary9(name8 binary11(name10 name12)))"
			}
			wantBody(t, "x "+a+" y "+b+" z", want)
			want = "do8(binary12(binary10(unary8(name9) name11) name13))"
			if rankB > rankA {
				want = "do8(binary10(unary8(name9) binary12(name11 name13)))"
			}
			wantBody(t, "-x "+a+" y "+b+" z", want)
		}
	}
}

// TestManyOperators takes each four of one operator a rank, and two of those of which there are more.
func TestManyOperators(t *testing.T) {
	s := newSlow()
	list := strings.Fields("|| && == < + - *")
	for _, a := range list {
		for _, b := range list {
			for _, c := range list {
				for _, d := range list {
					s.same(t, words("package a ; const c = v "+a+" w "+b+" x "+c+" - y "+d+" z ( 1 ) ; END"))
				}
			}
		}
	}
}
