package parse_test

import (
	"math/rand"
	"slices"
	"strings"
	"testing"

	"recension/api"
	"recension/parse"
	"recension/scan"
)

// TestNoWords has texts with nothing but the end, which is told.
func TestNoWords(t *testing.T) {
	for _, s := range []string{"@", " @", "\n\n\t @", "// a comment@", "// a\n// b\n@", strings.Repeat(" ", 2000) + "@"} {
		wantFault(t, s)
	}
}

// TestOneByte takes every text of one byte.
func TestOneByte(t *testing.T) {
	s := newSlow()
	for b := range 256 {
		text := string([]byte{byte(b)})
		want := 0
		if b == ' ' || b == '\t' || b == '\n' {
			want = 1
		}
		wantText(t, text, "", want)
		s.sameText(t, text)
	}
}

// TestFaultOfTheScan is told, wherever the tokens have theirs.
func TestFaultOfTheScan(t *testing.T) {
	for _, s := range []string{
		"@?", "x @?", "package a b @?", "package a @? b", "package @? b", "package 1\n// @\x01", "package a @/ b",
		"package a\nvar x @01", "package a\nvar @1x", "package 1 @01", "package a\nx y @1x", "package a\nvar x T = @1234567890123",
		"package a\nvar x T = @\"s", "package a\nx = @\"s\n\"", "else else @\"", "package a\nconst c = \"@\xff\"", "package a // @\x00", "package a b // é @\x7f", "package a b // @\xc3",
		"package a\nvar @" + strings.Repeat("n", 25) + " T", "package a b @" + strings.Repeat("n", 25), "package a @& b", "package a\nfunc f() {x @| y}", "package a\nfunc f() {x y @| z}", "package a\nfunc f() {x @# y z}",
		inFunc(strings.Repeat("(", 60) + "@?"), inFunc("@?" + strings.Repeat("(", 60)), inFunc(strings.Repeat("{", 60) + " @\"s"),
	} {
		wantFault(t, s)
	}
}

// TestLongTexts has 2,000 bytes, and one more.
func TestLongTexts(t *testing.T) {
	fill := func(s string, n int) string { return s + strings.Repeat(" ", n-len(s)) }
	wantText(t, fill("package a", 2000), "file0(package1)", -1)
	wantText(t, fill("package a", 2001), "", 2000)
	wantText(t, fill("package a", 5000), "", 2000)
	wantText(t, fill("package a b", 2000), "", 10)
	wantText(t, fill("package a b", 2001), "", 2000)
	wantText(t, fill("", 2001), "", 2000)
	wantText(t, fill("package a", 1999)+"b", "", 1999)
	wantText(t, fill("package a", 1999)+"?", "", 1999)
	wantText(t, fill("package a", 2000)+"?", "", 2000)
	wantText(t, fill("package a?", 2001), "", 9)
	many := strings.Repeat("x\n", (2000-len(inFunc("")))/2)
	if !newSlow().sameText(t, inFunc(many)) {
		t.Errorf("P11.2: a func of many lines has a fault")
	}
}

// TestByteOfTheToken has bytes, not runes, and the place of a semicolon that nobody wrote.
func TestByteOfTheToken(t *testing.T) {
	for _, s := range []string{
		"// é日本\n@x", "package a // é\n@x", "package a\nconst c = \"é日\" @x", "package a\nvar x T = \"\t\t\" @y", "\n\n\tpackage\t@1",
		"package a\nvar x@\n\n\n", "package a\nvar x @// c\n", "package a\nvar x  @\n", "package a\nvar x @// é", "package a\nvar x@", "package a\nvar x  @",
		"package a\nfunc f() {\n\tx := 1\n\n\t// no\n\ty @z\n}\n", "package a\nfunc f() {f(x@\n)}", "package a\nfunc f() {f(x @// x\n)}", "package a\nfunc f() {return\n@= x}",
		"package a\nfunc f() {x\n// the end\n@", "package a\nfunc f() {\n\n\n  @",
	} {
		wantFault(t, s)
	}
}

// TestTokensOfAText are scan's, beside the tree; with a fault there are none (wantText looks).
func TestTokensOfAText(t *testing.T) {
	for _, text := range validTexts() {
		want, _, _ := scan.Scan(text)
		tree, tokens, at := parse.Text(text)
		other, fault := parse.Tokens(want)
		if at != -1 || fault != -1 || tell(tree) != tell(other) || !slices.Equal(tokens, want) {
			t.Errorf("P11.2: Text(%q) is %s, %#v, %d", text, tell(tree), tokens, at)
		}
	}
}

// TestShortWords strings words together, each count of them behind each beginning of a text.
func TestShortWords(t *testing.T) {
	s := newSlow()
	for _, x := range []struct {
		ahead, words, behind string
		count                int
	}{
		{"", "package a ; \n import var func type { }", "", 4},
		{"package ", "a 1 ; \n . ( { package", "\nvar x T", 3},
		{"package a\n", "import b ; \n var x = 1", "", 4},
		{"package a\n", "const c ; \n = 1 + x", "", 4},
		{"package a\n", "type T struct { } x ; \n", "", 4},
		{"package a\nfunc ", "f ( ) { } x . \n", "", 4},
		{"package a\ntype T struct {", "x int . ; \n } { =", "}", 4},
		{"package a\nfunc f(", "x int . , ; \n ) {", ") {}", 4},
		{"package a\nfunc f() {", "a 1 ; \n { } ( ) . := = :", "}", 4},
		{"package a\nfunc f() {", "a \"s\" if else for { } \n ;", "}", 4},
		{"package a\nfunc f() {", "a return break continue ; \n { } :", "}", 4},
		{"package a\nfunc f() {", "a var const = := 1 T . \n", "}", 4},
		{"package a\nfunc f() {if x {}", "else if { } a ; \n", "}", 4},
		{"package a\nfunc f() {x = ", "a - ! + * && == ( )", "}", 4},
		{"package a\nfunc f() {g(", "a , ( ) . \n ; - =", ")}", 4},
		{"package a\nfunc f() {a", "( ) . + a := = : \n { }", "}", 4},
	} {
		list := strings.FieldsFunc(x.words, func(r rune) bool { return r == ' ' })
		var all func(text string, count int)
		all = func(text string, count int) {
			s.sameText(t, text+x.behind)
			for _, w := range list {
				if count > 0 {
					all(text+" "+w, count-1)
				}
			}
		}
		all(x.ahead, x.count)
	}
}

// TestEveryWord strings all words together: as long as a file can go on all of them, and one more.
func TestEveryWord(t *testing.T) {
	s := newSlow()
	for _, x := range []struct {
		ahead, behind string
		count         int
	}{
		{"", "", 5},
		{"package a ;", "; END", 4},
		{"package a ; import b ;", "; END", 3},
		{"package a ; var x T ;", "; END", 3},
		{"package a ; var x", "; END", 4},
		{"package a ; const", "; END", 4},
		{"package a ; type T struct", "; END", 4},
		{"package a ; type T struct {", "} ; END", 5},
		{"package a ; func f", "{ } ; END", 4},
		{"package a ; func f (", ") { } ; END", 4},
		{"package a ; func f ( )", "{ } ; END", 3},
		{"package a ; func f ( ) {", "} ; END", 3},
		{"package a ; func f ( ) {", "{ } } ; END", 3},
		{"package a ; func f ( ) { x", "} ; END", 3},
		{"package a ; func f ( ) { L :", "x { } } ; END", 3},
		{"package a ; func f ( ) { x :=", "} ; END", 2},
		{"package a ; func f ( ) { if", "{ } } ; END", 2},
		{"package a ; func f ( ) { if x { }", "{ } } ; END", 3},
		{"package a ; func f ( ) { if x { } else", "{ } } ; END", 2},
		{"package a ; func f ( ) { return", "} ; END", 2},
		{"package a ; func f ( ) { break", "} ; END", 3},
		{"package a ; func f ( ) { x (", ") } ; END", 2},
		{"package a ; func f ( ) { ( x", ") } ; END", 3},
		{"package a ; func f ( ) { x .", "} ; END", 3},
	} {
		ahead, behind := words(x.ahead), words(x.behind)
		ways := s.start()
		for i, y := range ahead {
			ways = s.step(ways, y, i)
		}
		s.every(t, ways, ahead, behind, x.count)
	}
}

// every takes l with the words behind it, and with each word more, of count in all.
func (s *slow) every(t *testing.T, ways []thread, l, behind []api.Token, count int) {
	t.Helper()
	whole := slices.Concat(l, behind)
	want, fault := s.on(ways, whole, len(l))
	hold(t, whole, want, fault)
	if count == 0 || fault >= 0 && fault < len(l) {
		return
	}
	for _, w := range append(vocabulary(), "END") {
		more := append(slices.Clone(l), word(w))
		on := s.step(ways, word(w), len(l))
		if len(on) == 0 {
			hold(t, slices.Concat(more, behind), "", len(l))
			continue
		}
		s.every(t, on, more, behind, count-1)
	}
}

// TestGrown takes long texts that were grown word by word, and changes in them.
func TestGrown(t *testing.T) {
	s := newSlow()
	r := rand.New(rand.NewSource(7))
	whole := 0
	for range 300 {
		l := s.grow(r, r.Intn(120))
		want, fault := s.run(l)
		hold(t, l, want, fault)
		if fault < 0 {
			whole++
		}
		for range 10 {
			changed := slices.Clone(l)
			i := r.Intn(len(l))
			switch r.Intn(3) {
			case 0:
				changed = slices.Delete(changed, i, i+1)
			case 1:
				changed[i] = word(vocabulary()[r.Intn(len(vocabulary()))])
			case 2:
				j := r.Intn(len(l))
				changed[i], changed[j] = changed[j], changed[i]
			}
			s.same(t, changed)
		}
	}
	if whole < 250 {
		t.Errorf("only %d texts were whole", whole)
	}
}

// grow takes any words that go on, and behind count of them those that come to an end.
func (s *slow) grow(r *rand.Rand, count int) []api.Token {
	var l []api.Token
	ways := s.start()
	ending := strings.Fields("END ) } ; { = struct for a ( package")
	for len(l) == 0 || l[len(l)-1].Kind != api.TEnd {
		list := ending
		if len(l) < count {
			list = vocabulary()
			r.Shuffle(len(list), func(i, j int) { list[i], list[j] = list[j], list[i] })
		}
		i := slices.IndexFunc(list, func(w string) bool { return len(s.step(ways, word(w), len(l))) > 0 })
		if i < 0 {
			// All the nestings that may be are open.
			return append(l, word("END"))
		}
		ways = s.step(ways, word(list[i]), len(l))
		l = append(l, word(list[i]))
	}
	return l
}

// sharedTexts are those of the tests that are laid beside the project.
func sharedTexts() []string {
	bodies := []string{
		"x", "x = y", "x := f(1, y)", "a + b * c - d", "a || b && c == d < e", "-!a.b(c).d", "(x)(y)", "return", "return x", "{x;y}",
		"if x {}", "if x {} else {}", "if x {} else if y {}", "for x {break;continue L}", "L: for x {break L\n}", "var x int\nconst c = \"s\"", ";;x;;;y;",
		"x y", "x : y", "x.y := 1", "f(x,)", "if x\n{}", "if x {}\nelse {}", "= x", "x = ", "x += 1", "\"x",
		strings.Repeat("(", 40) + "x" + strings.Repeat(")", 40), strings.Repeat("f(", 40) + strings.Repeat(")", 40), strings.Repeat("-", 40) + "x", strings.Repeat("!", 40) + "x", strings.Repeat("{", 40) + strings.Repeat("}", 40),
		strings.Repeat("(", 39) + "x" + strings.Repeat(")", 39), strings.Repeat("f(", 39) + strings.Repeat(")", 39), strings.Repeat("-", 39) + "x", strings.Repeat("!", 39) + "x", strings.Repeat("{", 39) + strings.Repeat("}", 39),
		strings.Repeat("if x {", 39) + strings.Repeat("}", 39), strings.Repeat("if x {", 40) + strings.Repeat("}", 40), "if x {}" + strings.Repeat(" else if x {}", 38), "if x {}" + strings.Repeat(" else if x {}", 39),
		"x := a + b * c", "x := -a - -b", "!(a) && !-b", "f(a, -1, \"s\").g()", "return -x", "return (x)", "if (a) - b {", "func f(a int, b T) q.T {", "L: for true {}", "} else {", "f()()", "1 (2)", "\"s\".x", "a == -1 || b", "(-a) - 1",
	}
	var all []string
	for _, s := range bodies {
		all = append(all, inFunc(s))
	}
	return append(all,
		"", "x", "package", "package 1", "package a", "package a b", "package a\nx", "package a;;import b\nimport c;;", "package a\nvar x int\nvar y b.T = 1", "package a\nconst c = -1 + 2",
		"package a\ntype T struct {;x int;;y b.T}", "package a\ntype T struct {}", "package a\nfunc f() {}", "package a\nfunc f(x int, y b.T) q.R {}",
		"package a\nvar x", "package a\nvar x int int", "package a\nvar x int\nimport b", "package a\nconst x", "package a\nconst x 1", "package a\ntype T int", "package a\ntype T struct {x}",
		"package a\nfunc f", "package a\nfunc f(x int,) {}", "package a\nfunc f(x) {}", "package a\nfunc f() {", "package a\nfunc f() {}}",
		"package a\nconst c = "+strings.Repeat("(", 40)+"1"+strings.Repeat(")", 40)+strings.Repeat(" + 1", 100),
		" \t\n ", "if x{\n}", "a:=b;c", "a // x\nb", "a +//x \n//y\nb", "return//", "\"a//\" 12 0", "!==&&||<-*=.", "a\n\n;", "_x9 \"é\"", "a&b", "a \x00", "x \"ab\n\"", "x \"ab", "\"a\xff", "\"\xff\"", "// \xff", "a 01", "1a", "1_", "1.a", "123456789012", " 1234567890123", strings.Repeat("n", 25), "é", "a / b", "func",
		"plain\ttext\n", "é☃\U0001f600\ufffd", "a\x00", "ab\r", "a\x7f", "é\x1f", "\xff", "a\xc3", "ab\xed\xa0\x80", "\x80a\x00", " \x0b", "ab", "a\n", "\n\nx", "ab\n\ncde", "abcdef",
	)
}

// TestCutTexts cuts off each text at each byte, at its end and at its beginning.
func TestCutTexts(t *testing.T) {
	s := newSlow()
	for _, text := range append(sharedTexts(), validTexts()...) {
		for i := range len(text) + 1 {
			s.sameText(t, text[:i])
			if len(text) < 100 {
				s.sameText(t, text[i:])
			}
		}
	}
}

// TestEachByteAnother puts bytes in the place of each byte of a program, and ahead of it.
func TestEachByteAnother(t *testing.T) {
	s := newSlow()
	text := "package a\nimport q\nvar x q.T = -f(1, y)\ntype T struct {x int;y q.T}\nfunc f(x int) T {\n\tif x == 1 {x := 2} else {return x}\n\tL: for !x {break L}\n}\n"
	if !s.sameText(t, text) {
		t.Errorf("P11.2: %q has a fault", text)
	}
	for i := range len(text) {
		for _, b := range []byte("x1 \n;(){}.,:=-!\"/\x00\xff") {
			s.sameText(t, text[:i]+string([]byte{b})+text[i+1:])
			s.sameText(t, text[:i]+string([]byte{b})+text[i:])
		}
		s.sameText(t, text[:i]+text[i+1:])
	}
}
