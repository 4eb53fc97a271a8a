package token_test

import (
	"math"
	"slices"
	"strings"
	"testing"

	"recension/api"
	"recension/token"
)

func ops() []string {
	return strings.Fields("( ) { } , . : := = == != < + - * ! && ||")
}

func keys() []string {
	return strings.Fields("package import var const type struct func if else for return break continue")
}

// foreign are signs that Go has and the document has not.
func foreign() []string {
	return strings.Fields("> <= >= / % ; [ ] & | ^ ~ << >> &^ += -= *= /= %= &= |= ^= <<= >>= &^= <- ++ -- ... ? @ # $ \\ ` ' \" // /* */ -> => ** :: !! ===")
}

// odd are texts that are no sign at all.
func odd() []string {
	return []string{"", " ", "\n", "\t", "\x00", "\xff", "a", "x_1", "0", "12", "\"s\"", "\"(\"", "é", "（", "−", "！", "｜｜",
		"return ", "Return", "and", "or", "not", "int", "true", "nil", strings.Repeat("(", 1<<20)}
}

// near is s with a byte more or less, and s twice.
func near(s string) []string {
	list := []string{s + s, strings.ToUpper(s)}
	for i := range len(s) {
		list = append(list, s[:i]+s[i+1:])
	}
	for i := range len(s) + 1 {
		for _, c := range append(ops(), " ", "\n", "\x00", "\xff", "a", "0", "s", ">", "/", ";") {
			list = append(list, s[:i]+c+s[i:])
		}
	}
	return list
}

// texts are all of them, with their neighbours.
func texts() []string {
	list := slices.Concat(ops(), keys(), foreign(), odd())
	for _, s := range slices.Concat(ops(), keys()) {
		list = append(list, near(s)...)
	}
	return list
}

func kinds() []int {
	return []int{0, api.TName, api.TInt, api.TString, api.TOp, api.TKey, api.TSemi, api.TEnd, 8, -1, -api.TOp, api.TOp + 1<<32, math.MaxInt, math.MinInt}
}

func tok(kind int, s string) api.Token { return api.Token{Kind: kind, Text: s} }

func op(s string) api.Token { return tok(api.TOp, s) }

// short keeps what a fault tells readable.
func short(t api.Token) api.Token {
	t.Text = t.Text[:min(len(t.Text), 20)]
	return t
}

func TestOp(t *testing.T) {
	if len(ops()) != 18 {
		t.Fatalf("the chapter has eighteen operators, this list %d", len(ops()))
	}
	for _, s := range ops() {
		if !token.Op(s) {
			t.Errorf("P5.1: Op of %q is false", s)
		}
	}
	for _, s := range texts() {
		if got, want := token.Op(s), slices.Contains(ops(), s); got != want {
			t.Errorf("P5.1: Op of %.20q is %v", s, got)
		}
	}
	for _, s := range slices.Concat(keys(), foreign(), odd()) {
		if token.Op(s) {
			t.Errorf("P5.1: Op of %.20q, which is no operator here", s)
		}
	}
}

func TestEachByte(t *testing.T) {
	ranks := rankTable()
	check := func(s string) {
		if token.Op(s) != slices.Contains(ops(), s) || token.Rank(s) != ranks[s] || token.Unary(s) != (s == "-" || s == "!") {
			t.Errorf("P5.1: of %q Op is %v, Rank %d, Unary %v", s, token.Op(s), token.Rank(s), token.Unary(s))
		}
	}
	for c := range 256 {
		check(string([]byte{byte(c)}))
	}
	for c := range 256 * 256 {
		check(string([]byte{byte(c >> 8), byte(c)}))
	}
}

func rankTable() map[string]int {
	return map[string]int{"||": 1, "&&": 2, "==": 3, "!=": 3, "<": 3, "+": 4, "-": 4, "*": 5}
}

func TestRank(t *testing.T) {
	ranks := rankTable()
	for s, want := range ranks {
		if got := token.Rank(s); got != want {
			t.Errorf("P5.1: Rank of %s is %d, not %d", s, got, want)
		}
	}
	for _, s := range strings.Fields("( ) { } , . : := = !") {
		if got := token.Rank(s); got != 0 {
			t.Errorf("P5.1: Rank of %s is %d, not 0", s, got)
		}
	}
	for _, s := range texts() {
		if got := token.Rank(s); got != ranks[s] {
			t.Errorf("P5.1: Rank of %.20q is %d, not %d", s, got, ranks[s])
		}
	}
}

func TestUnary(t *testing.T) {
	if !token.Unary("-") || !token.Unary("!") {
		t.Errorf("P5.1: Unary of - is %v, of ! %v", token.Unary("-"), token.Unary("!"))
	}
	for _, s := range texts() {
		if got, want := token.Unary(s), s == "-" || s == "!"; got != want {
			t.Errorf("P5.1: Unary of %.20q is %v", s, got)
		}
	}
}

// isSign and the like are the chapter's words: a sign is a TOp of that Text, a word a TKey of that Text.
func isSign(t api.Token, signs string) bool {
	return t.Kind == api.TOp && slices.Contains(strings.Fields(signs), t.Text)
}

func isWord(t api.Token, words string) bool {
	return t.Kind == api.TKey && slices.Contains(strings.Fields(words), t.Text)
}

func isPlain(t api.Token) bool {
	return t.Kind == api.TName || t.Kind == api.TInt || t.Kind == api.TString
}

func TestEnds(t *testing.T) {
	for _, s := range texts() {
		for _, k := range kinds() {
			x := tok(k, s)
			want := isPlain(x) || isSign(x, ") }") || isWord(x, "return break continue")
			if got := token.Ends(x); got != want {
				t.Errorf("P5.1: Ends of %#v is %v", short(x), got)
			}
		}
	}
}

func TestEndsOnes(t *testing.T) {
	for k, x := range []struct {
		t    api.Token
		want bool
	}{
		{tok(api.TName, "a"), true}, {tok(api.TName, ""), true}, {tok(api.TName, "("), true}, {tok(api.TName, "return"), true}, {tok(api.TName, "else"), true},
		{tok(api.TInt, "0"), true}, {tok(api.TInt, ""), true}, {tok(api.TInt, "-"), true},
		{tok(api.TString, `"s"`), true}, {tok(api.TString, ""), true}, {tok(api.TString, "{"), true}, {tok(api.TString, ")"), true},
		{op(")"), true}, {op("}"), true}, {op("("), false}, {op("{"), false}, {op("return"), false}, {op(""), false}, {op("a"), false}, {op("))"), false},
		{tok(api.TKey, "return"), true}, {tok(api.TKey, "break"), true}, {tok(api.TKey, "continue"), true},
		{tok(api.TKey, "if"), false}, {tok(api.TKey, ")"), false}, {tok(api.TKey, "}"), false}, {tok(api.TKey, ""), false}, {tok(api.TKey, "a"), false},
		{tok(api.TSemi, ";"), false}, {tok(api.TSemi, ")"), false}, {tok(api.TSemi, "return"), false},
		{tok(api.TEnd, ""), false}, {tok(api.TEnd, "}"), false}, {tok(0, ")"), false}, {tok(0, "return"), false}, {api.Token{}, false},
		{tok(-1, ")"), false}, {tok(8, "break"), false}, {api.Token{Kind: api.TOp, Text: ")", At: -7, Line: math.MinInt, Auto: true}, true},
		{api.Token{At: 3, Line: 1, Auto: true}, false}, {api.Token{Kind: api.TSemi, Text: ";", Auto: true}, false},
	} {
		if got := token.Ends(x.t); got != x.want {
			t.Errorf("P5.1, %d: Ends of %#v is %v", k, x.t, got)
		}
	}
}

func TestEq(t *testing.T) {
	list := []string{"", "a", "A", "b", "ab", "a ", "(", ")", "((", "return", "\x00", "\xff", "é", "e\u0301", ";"}
	for _, s := range list {
		for _, r := range list {
			for _, k := range kinds() {
				for _, m := range kinds() {
					if got, want := token.Eq(tok(k, s), tok(m, r)), k == m && s == r; got != want {
						t.Errorf("P5.1: Eq of %#v and %#v is %v", tok(k, s), tok(m, r), got)
					}
				}
			}
		}
	}
}

func TestEqElsewhere(t *testing.T) {
	a := api.Token{Kind: api.TSemi, Text: ";", At: 5, Line: 2}
	for _, b := range []api.Token{
		{Kind: api.TSemi, Text: ";", At: 6, Line: 2},
		{Kind: api.TSemi, Text: ";", At: 5, Line: 3},
		{Kind: api.TSemi, Text: ";", At: 5, Line: 2, Auto: true},
		{Kind: api.TSemi, Text: ";", At: math.MinInt, Line: math.MaxInt, Auto: true},
		{Kind: api.TSemi, Text: strings.Repeat(";", 2)[1:]},
	} {
		if !token.Eq(a, b) || !token.Eq(b, a) {
			t.Errorf("P5.1: %#v and %#v are not Eq", a, b)
		}
		b.Kind = api.TOp
		if token.Eq(a, b) || token.Eq(b, a) {
			t.Errorf("P5.1: %#v and %#v are Eq", a, b)
		}
	}
	if !token.Eq(api.Token{}, api.Token{}) {
		t.Error("P5.1: two zero tokens are not Eq")
	}
}

// space is the chapter's sentence on Space, word for word.
func space(p, a, b api.Token) bool {
	switch {
	case isSign(a, "( . !"):
		return false
	case isSign(a, "-") && !(isPlain(p) || isSign(p, ")")):
		return false
	case isSign(b, ") , . :"):
		return false
	case (a.Kind == api.TName || isSign(a, ")")) && isSign(b, "("):
		return false
	case isSign(a, "{") && isSign(b, "}"):
		return false
	}
	return true
}

func sameSpace(t *testing.T, p, a, b api.Token) {
	t.Helper()
	if got, want := token.Space(p, a, b), space(p, a, b); got != want {
		t.Errorf("P5.2: Space behind %#v, between %#v and %#v, is %v", short(p), short(a), short(b), got)
	}
}

// words are tokens as a text has them, and none.
func words() []api.Token {
	list := []api.Token{{}, tok(api.TName, "a"), tok(api.TName, "int"), tok(api.TInt, "0"), tok(api.TInt, "12"), tok(api.TString, `""`), tok(api.TString, `"("`), tok(api.TSemi, ";"), tok(api.TEnd, "")}
	for _, s := range ops() {
		list = append(list, op(s))
	}
	for _, s := range keys() {
		list = append(list, tok(api.TKey, s))
	}
	return list
}

func TestSpaceOfWords(t *testing.T) {
	for _, p := range words() {
		for _, a := range words() {
			for _, b := range words() {
				sameSpace(t, p, a, b)
			}
		}
	}
}

// masks are texts of signs and words under each kind, most of which they do not belong to.
func masks() []api.Token {
	list := []api.Token{}
	for _, s := range []string{"(", ")", "{", "}", ",", ".", ":", "!", "-", "", "a", "return", ":=", "--"} {
		for _, k := range []int{0, api.TName, api.TInt, api.TString, api.TOp, api.TKey, api.TSemi, api.TEnd, 8, math.MinInt} {
			list = append(list, tok(k, s))
		}
	}
	return list
}

func TestSpaceOfMasks(t *testing.T) {
	for _, p := range masks() {
		for _, a := range masks() {
			for _, b := range masks() {
				sameSpace(t, p, a, b)
			}
		}
	}
}

func TestSpaceOfAllTexts(t *testing.T) {
	some := []api.Token{{}, tok(api.TName, "a"), op("("), op(")"), op("{"), op("}"), op("-"), op("+")}
	for _, s := range texts() {
		for _, k := range kinds() {
			x := tok(k, s)
			for _, y := range some {
				sameSpace(t, x, op("-"), y)
				sameSpace(t, y, x, op("("))
				sameSpace(t, api.Token{}, x, y)
				sameSpace(t, api.Token{}, y, x)
			}
		}
	}
}

func TestSpaceOnes(t *testing.T) {
	none := api.Token{}
	a, b := tok(api.TName, "a"), tok(api.TName, "b")
	one, str := tok(api.TInt, "1"), tok(api.TString, `"s"`)
	minus := op("-")
	for k, x := range []struct {
		p, a, b api.Token
		want    bool
	}{
		{none, a, b, true}, {none, none, none, true}, {a, op("+"), b, true}, {a, op(","), b, true}, {a, op(":"), b, true}, {none, a, op(":="), true}, {none, a, op("="), true},
		{none, op("("), a, false}, {a, op("."), b, false}, {none, op("!"), a, false}, {none, op("!"), op("("), false}, {none, op("("), op("("), false}, {none, op("("), op("{"), false},
		{none, minus, a, false}, {a, minus, b, true}, {one, minus, b, true}, {str, minus, b, true}, {op(")"), minus, b, true},
		{op("}"), minus, b, false}, {op("("), minus, b, false}, {op(","), minus, b, false}, {minus, minus, b, false}, {op(":="), minus, b, false}, {op("!"), minus, b, false},
		{tok(api.TKey, "return"), minus, b, false}, {tok(api.TKey, ")"), minus, b, false}, {tok(api.TSemi, ";"), minus, b, false}, {tok(api.TSemi, ")"), minus, b, false}, {tok(0, "a"), minus, b, false},
		{tok(api.TName, ""), minus, b, true}, {tok(api.TString, "("), minus, b, true}, {tok(api.TInt, "("), minus, b, true},
		{a, minus, minus, true}, {a, minus, op("("), true}, {none, minus, op("("), false}, {a, minus, op(")"), false}, {a, minus, op("!"), true},
		{none, a, minus, true}, {none, op("("), minus, false}, {none, op("="), minus, true}, {none, a, op("!"), true},
		{none, a, op(")"), false}, {none, a, op(","), false}, {none, a, op("."), false}, {none, a, op(":"), false}, {none, op("+"), op(")"), false}, {none, tok(api.TKey, "if"), op("."), false},
		{none, a, op("("), false}, {none, op(")"), op("("), false}, {none, one, op("("), true}, {none, str, op("("), true}, {none, op("}"), op("("), true}, {none, op("{"), op("("), true},
		{none, tok(api.TKey, "return"), op("("), true}, {none, tok(api.TKey, "func"), op("("), true}, {none, tok(api.TName, ""), op("("), false}, {none, tok(api.TKey, ")"), op("("), true}, {none, tok(api.TString, ")"), op("("), true},
		{none, a, tok(api.TString, "("), true}, {none, a, tok(0, "("), true}, {none, op(")"), tok(api.TKey, "("), true},
		{none, op("{"), op("}"), false}, {none, op("{"), a, true}, {none, a, op("}"), true}, {none, op("}"), op("}"), true}, {none, op("{"), op("{"), true}, {none, op("}"), op("{"), true}, {none, op(")"), op("{"), true},
		{none, tok(api.TString, "{"), op("}"), true}, {none, op("{"), tok(api.TKey, "}"), true},
		{none, tok(api.TString, "("), a, true}, {none, tok(api.TName, "."), a, true}, {none, tok(api.TKey, "!"), a, true}, {none, tok(0, "-"), a, true}, {none, a, tok(api.TString, ")"), true}, {none, a, tok(api.TSemi, ","), true}, {none, a, tok(api.TEnd, "."), true}, {none, a, tok(api.TName, ":"), true},
	} {
		if got := token.Space(x.p, x.a, x.b); got != x.want {
			t.Errorf("P5.2, %d: Space behind %#v, between %#v and %#v, is %v", k, x.p, x.a, x.b, got)
		}
	}
}

func TestSpaceAnywhere(t *testing.T) {
	moved := func(x api.Token) api.Token {
		x.At, x.Line, x.Auto = math.MinInt, math.MaxInt, true
		return x
	}
	for _, p := range words() {
		for _, a := range words() {
			for _, b := range words() {
				if token.Space(p, a, b) != token.Space(moved(p), moved(a), moved(b)) {
					t.Errorf("P5.2: Space behind %#v, between %#v and %#v, hangs on where they stand", p, a, b)
				}
			}
		}
	}
}

func FuzzSpace(f *testing.F) {
	f.Add(0, "", 4, "-", 1, "a")
	f.Add(4, ")", 4, "-", 4, "(")
	f.Add(1, "f", 4, "{", 4, "}")
	f.Fuzz(func(t *testing.T, pk int, p string, ak int, a string, bk int, b string) {
		sameSpace(t, tok(pk, p), tok(ak, a), tok(bk, b))
	})
}
