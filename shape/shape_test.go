package shape_test

import (
	"math"
	"math/rand"
	"runtime/debug"
	"slices"
	"strings"
	"testing"

	"recension/api"
	"recension/shape"
)

const most, least = math.MaxInt, math.MinInt

func n(kind, tok int, kids ...api.Node) api.Node {
	return api.Node{Kind: kind, Tok: tok, Kids: kids}
}

// texts makes a list of tokens of these Texts, whose Kinds and places say nothing.
func texts(all ...string) []api.Token {
	var l []api.Token
	for i, s := range all {
		l = append(l, api.Token{Kind: i % 9, Text: s, At: -i, Line: 7})
	}
	return l
}

// kindNames are the names of the Kinds from 1, and bareNames those of which no token is written, both as the chapters list them.
func kindNames() []string {
	return strings.Fields("file package import var const struct field func param block define do assign if for return break continue label name int string unary binary paren call select type")
}

func bareNames() []string {
	return strings.Fields("file block do paren call if for return break continue")
}

// slow is the promise's words, with calls that stand in one another.
func slow(x api.Node, l []api.Token) string {
	name := ""
	for i, s := range kindNames() {
		if x.Kind == i+1 {
			name = s
		}
	}
	told := "(" + name
	if !slices.Contains(bareNames(), name) {
		told += " "
		for i, t := range l {
			if i == x.Tok {
				told += t.Text
			}
		}
	}
	for _, kid := range x.Kids {
		told += " " + slow(kid, l)
	}
	return told + ")"
}

func wantText(t *testing.T, x api.Node, l []api.Token, want string) {
	t.Helper()
	if got := shape.Text(x, l); got != want {
		t.Errorf("P12.1: Text is %q, not %q", short(got), short(want))
	}
}

// short keeps what a fault tells readable.
func short(s string) string { return s[:min(len(s), 500)] }

// same holds Text against the slow way.
func same(t *testing.T, x api.Node, l []api.Token) {
	t.Helper()
	wantText(t, x, l, slow(x, l))
}

// TestEachKind has each Kind with no Kids, one, and several.
func TestEachKind(t *testing.T) {
	l := texts("zero", "one", "two", "three")
	for _, c := range []struct {
		kind int
		head string
	}{
		{api.NFile, "file"}, {api.NPackage, "package one"}, {api.NImport, "import one"}, {api.NVar, "var one"}, {api.NConst, "const one"},
		{api.NStruct, "struct one"}, {api.NField, "field one"}, {api.NFunc, "func one"}, {api.NParam, "param one"}, {api.NBlock, "block"},
		{api.NDefine, "define one"}, {api.NDo, "do"}, {api.NAssign, "assign one"}, {api.NIf, "if"}, {api.NFor, "for"},
		{api.NReturn, "return"}, {api.NBreak, "break"}, {api.NContinue, "continue"}, {api.NLabel, "label one"}, {api.NName, "name one"},
		{api.NInt, "int one"}, {api.NString, "string one"}, {api.NUnary, "unary one"}, {api.NBinary, "binary one"}, {api.NParen, "paren"},
		{api.NCall, "call"}, {api.NSelect, "select one"}, {api.NType, "type one"},
	} {
		two, three := n(api.NName, 2), n(api.NInt, 3)
		wantText(t, n(c.kind, 1), l, "("+c.head+")")
		wantText(t, n(c.kind, 1, two), l, "("+c.head+" (name two))")
		wantText(t, n(c.kind, 1, two, three), l, "("+c.head+" (name two) (int three))")
		wantText(t, n(c.kind, 1, two, three, two, two), l, "("+c.head+" (name two) (int three) (name two) (name two))")
		wantText(t, n(c.kind, 1, n(c.kind, 1, n(c.kind, 1))), l, "("+c.head+" ("+c.head+" ("+c.head+")))")
		wantText(t, n(c.kind, 1, n(api.NBlock, 1), n(api.NDo, 2, two)), l, "("+c.head+" (block) (do (name two)))")
		wantText(t, n(api.NBlock, 1, n(c.kind, 1), n(c.kind, 1)), l, "(block ("+c.head+") ("+c.head+"))")
		wantText(t, n(api.NVar, 0, n(c.kind, 1), two), l, "(var zero ("+c.head+") (name two))")
		// Where the list hasn't the token, the blank is there for those of which one is written.
		name, _, written := strings.Cut(c.head, " ")
		if written {
			name += " "
		}
		for _, tok := range []int{-1, 4, least, most} {
			wantText(t, n(c.kind, tok), l, "("+name+")")
			wantText(t, n(c.kind, tok, two), l, "("+name+" (name two))")
		}
		wantText(t, n(c.kind, 0), nil, "("+name+")")
	}
}

// TestNoKind has Kinds that have no name: they are written with their token.
func TestNoKind(t *testing.T) {
	l := texts("zero", "one", "two")
	kinds := []int{0, -1, -2, 29, 30, 31, 32, 56, 64, 100, most, most - 1, least, least + 1}
	for kind := 1; kind <= 28; kind++ {
		// What would be a Kind if it were cut to fewer bits, or turned.
		kinds = append(kinds, -kind, ^kind, kind+28*(1+kind/28), kind+1<<8, kind+1<<16, kind+1<<32, kind-1<<8, kind-1<<32, least+kind)
	}
	for _, kind := range kinds {
		if kind >= 1 && kind <= 28 {
			continue
		}
		wantText(t, n(kind, 1), l, "( one)")
		wantText(t, n(kind, 9), l, "( )")
		wantText(t, n(kind, 1), nil, "( )")
		wantText(t, n(kind, 1, n(kind, 2), n(kind, 9)), l, "( one ( two) ( ))")
		wantText(t, n(kind, 9, n(api.NBlock, 1)), l, "(  (block))")
		wantText(t, n(api.NBlock, 1, n(kind, 0)), l, "(block ( zero))")
	}
	wantText(t, api.Node{}, nil, "( )")
	wantText(t, api.Node{}, l, "( zero)")
	wantText(t, n(0, 0, api.Node{}, api.Node{}), nil, "(  ( ) ( ))")
}

// TestTokens has each number of a token of lists of each length.
func TestTokens(t *testing.T) {
	whole := texts("a", "b", "c", "d", "e", "f")
	for length := range len(whole) + 1 {
		for tok := -3; tok <= len(whole)+3; tok++ {
			text := ""
			if tok >= 0 && tok < length {
				text = whole[tok].Text
			}
			// What is in the spare room is none of the list.
			for _, l := range [][]api.Token{whole[:length], slices.Clip(whole[:length]), slices.Clone(whole[:length])} {
				wantText(t, n(api.NName, tok), l, "(name "+text+")")
				wantText(t, n(api.NVar, tok, n(api.NType, tok), n(api.NCall, tok, n(api.NName, tok))), l, "(var "+text+" (type "+text+") (call (name "+text+")))")
			}
		}
	}
}

func TestNoToken(t *testing.T) {
	l := texts("zero", "one", "two")
	for _, tok := range []int{-1, -2, -3, -4, 3, 4, 5, 100, 1 << 8, 1<<8 + 1, 1 << 16, 1 << 31, -1 << 31, 1 << 32, 1<<32 + 1, -1 << 32, most, most - 1, least, least + 1, least + 2} {
		wantText(t, n(api.NName, tok), l, "(name )")
		wantText(t, n(api.NVar, tok, n(api.NType, 1), n(api.NInt, tok)), l, "(var  (type one) (int ))")
		wantText(t, n(api.NCall, tok, n(api.NName, 2)), l, "(call (name two))")
		wantText(t, n(0, tok), l, "( )")
	}
	for _, l := range [][]api.Token{nil, {}, make([]api.Token, 0, 9), texts("zero", "one")[:0]} {
		for _, tok := range []int{0, 1, -1, 9, most, least} {
			wantText(t, n(api.NName, tok), l, "(name )")
			wantText(t, n(api.NVar, tok, n(api.NType, tok), n(api.NInt, tok)), l, "(var  (type ) (int ))")
			wantText(t, n(api.NFile, tok), l, "(file)")
			wantText(t, n(api.NIf, tok, n(api.NName, tok), n(api.NBlock, tok)), l, "(if (name ) (block))")
		}
	}
}

// TestAnyText has tokens of Texts that no token of a text has: they are written as they are.
func TestAnyText(t *testing.T) {
	for _, s := range []string{
		"", " ", "  ", "\t", "\n", "\r\n", "(", ")", "()", ")(", " ) ", "(name x)", ") (name x", "a b", " a", "a ", "a\nb", "\n\n",
		"\"a) (b\"", "\"", "\\", "\x00", "a\x00b", "\x7f", "é☃\U0001f600", "\ufffd", "\xff", "\xc3", "%d%s%!", "name", "block", "file", ";", strings.Repeat("long", 5000),
	} {
		l := texts("a", s, "b")
		wantText(t, n(api.NName, 1), l, "(name "+s+")")
		wantText(t, n(api.NCall, 1), l, "(call)")
		wantText(t, n(0, 1), l, "( "+s+")")
		wantText(t, n(api.NBinary, 1, n(api.NName, 0), n(api.NString, 1), n(api.NName, 2)), l, "(binary "+s+" (name a) (string "+s+") (name b))")
		wantText(t, n(api.NBlock, 1, n(api.NDo, 1, n(api.NInt, 1))), l, "(block (do (int "+s+")))")
	}
}

// TestTextAlone holds that of a token nothing but its Text is looked at.
func TestTextAlone(t *testing.T) {
	x := n(api.NVar, 0, n(api.NType, 0), n(api.NReturn, 0))
	for _, kind := range []int{0, api.TName, api.TInt, api.TString, api.TOp, api.TKey, api.TSemi, api.TEnd, 8, -1, most, least} {
		for _, at := range []int{0, 5, -1, most, least} {
			for _, auto := range []bool{false, true} {
				wantText(t, x, []api.Token{{Kind: kind, Text: "w", At: at, Line: at, Auto: auto}}, "(var w (type w) (return))")
			}
		}
	}
}

// TestOthersTokens has trees whose numbers are of one token, of another's list, or turned round.
func TestOthersTokens(t *testing.T) {
	x := n(1, 0, n(2, 1), n(8, 2, n(9, 3, n(28, 4)), n(10, 5, n(12, 6, n(26, 7, n(20, 6), n(21, 8))))))
	wantText(t, x, texts("package", "a", "f", "p", "T", "{", "g", "(", "1"), "(file (package a) (func f (param p (type T)) (block (do (call (name g) (int 1))))))")
	wantText(t, x, texts("1", "(", "g", "{", "T", "p", "f", "a", "package"), "(file (package () (func g (param { (type T)) (block (do (call (name f) (int package))))))")
	wantText(t, x, texts("w", "x"), "(file (package x) (func  (param  (type )) (block (do (call (name ) (int ))))))")
	wantText(t, x, nil, "(file (package ) (func  (param  (type )) (block (do (call (name ) (int ))))))")
	all := texts("w")
	for _, tok := range []int{0, 1, -1} {
		want := "(file (package t) (func t (param t (type t)) (block (do (call (name t) (int t))))))"
		text := ""
		if tok == 0 {
			text = "w"
		}
		wantText(t, withTok(x, tok), all, strings.ReplaceAll(want, " t", " "+text))
	}
	// Some of the tokens there are, and some not, in one tree.
	wantText(t, n(20, 1, n(20, 0, n(20, -1), n(20, 0)), n(20, 2), n(20, 1, n(20, 3))), texts("x", "y"), "(name y (name x (name ) (name x)) (name ) (name y (name )))")
}

func withTok(x api.Node, tok int) api.Node {
	y := n(x.Kind, tok)
	for _, kid := range x.Kids {
		y.Kids = append(y.Kids, withTok(kid, tok))
	}
	return y
}

// TestWhereKidsStand has the same nodes that hang otherwise, and in another order.
func TestWhereKidsStand(t *testing.T) {
	l := texts("a", "b", "c")
	x, y := n(20, 1), n(20, 2)
	wantText(t, n(25, 0, x, y), l, "(paren (name b) (name c))")
	wantText(t, n(25, 0, y, x), l, "(paren (name c) (name b))")
	wantText(t, n(25, 0, n(20, 1, y)), l, "(paren (name b (name c)))")
	wantText(t, n(25, 0, n(25, 0, x), y), l, "(paren (paren (name b)) (name c))")
	wantText(t, n(25, 0, x, n(25, 0, y)), l, "(paren (name b) (paren (name c)))")
	wantText(t, n(25, 0, n(25, 0), x, n(25, 0, n(25, 0)), n(25, 0)), l, "(paren (paren) (name b) (paren (paren)) (paren))")
	wantText(t, n(20, 0, n(20, 1, n(20, 2), n(20, 2)), n(20, 1, n(20, 2))), l, "(name a (name b (name c) (name c)) (name b (name c)))")
	for _, none := range [][]api.Node{nil, {}, make([]api.Node, 0, 3), []api.Node{x, y}[:0]} {
		z := api.Node{Kind: 20, Tok: 1, Kids: none}
		wantText(t, z, l, "(name b)")
		wantText(t, n(10, 0, z, n(10, 0, z), z), l, "(block (name b) (block (name b)) (name b))")
	}
}

// forests answers all lists of trees of count nodes in all, each node of each Kind and token that there are to choose from.
func forests(count int, kinds, toks []int) [][]api.Node {
	if count == 0 {
		return [][]api.Node{nil}
	}
	var all [][]api.Node
	for first := 1; first <= count; first++ {
		for _, x := range trees(first, kinds, toks) {
			for _, rest := range forests(count-first, kinds, toks) {
				all = append(all, slices.Concat([]api.Node{x}, rest))
			}
		}
	}
	return all
}

func trees(count int, kinds, toks []int) []api.Node {
	var all []api.Node
	for _, kids := range forests(count-1, kinds, toks) {
		for _, kind := range kinds {
			for _, tok := range toks {
				all = append(all, n(kind, tok, kids...))
			}
		}
	}
	return all
}

// TestEveryShortTree takes all trees of so many nodes, the more nodes the fewer Kinds and tokens to choose from.
func TestEveryShortTree(t *testing.T) {
	l := texts("a", "", "(")
	var every []int
	for kind := -1; kind <= 30; kind++ {
		every = append(every, kind)
	}
	for _, c := range []struct {
		count       int
		kinds, toks []int
	}{
		{1, every, []int{-1, 0, 1, 2, 3, 4}},
		{2, every, []int{-1, 0, 3}},
		{3, []int{0, api.NBlock, api.NName}, []int{-1, 0, 2, 3}},
		{4, []int{0, api.NCall, api.NVar}, []int{0, 3}},
		{6, []int{api.NFile, api.NType}, []int{0}},
		{8, []int{api.NDo}, []int{0}},
		{8, []int{api.NLabel}, []int{0}},
	} {
		for _, x := range trees(c.count, c.kinds, c.toks) {
			same(t, x, l)
		}
	}
}

// TestStrewnTrees has greater ones, some of them deep.
func TestStrewnTrees(t *testing.T) {
	r := rand.New(rand.NewSource(12))
	for range 600 {
		b := make([]byte, r.Intn(400))
		for i := range b {
			b[i] = byte(r.Intn(256))
		}
		x := grown(b)
		same(t, x, texts("a", " b", "", ")", "é", "f")[:r.Intn(7)])
	}
}

// grown makes a tree of bytes, two a node: what it is, and where it hangs, beneath the newest one or above.
func grown(b []byte) api.Node {
	x := n(api.NFile, 0)
	path := []*api.Node{&x}
	for ; len(b) >= 2; b = b[2:] {
		up := int(b[1]>>4) % len(path)
		at := path[len(path)-1-up]
		at.Kids = append(at.Kids, n(int(b[0]%32)-1, int(b[1]&15)-4))
		path = append(path[:len(path)-up], &at.Kids[len(at.Kids)-1])
	}
	return x
}

// TestDeeperThanCallsMayBe takes the room from calls that stand in one another; a tree has no limit.
func TestDeeperThanCallsMayBe(t *testing.T) {
	const count = 1_000_000
	defer debug.SetMaxStack(debug.SetMaxStack(16 << 20))
	x, y := n(api.NName, 0), n(api.NBlock, 0)
	for range count {
		x = n(api.NParen, 5, x)
		y = n(api.NUnary, 1, y)
	}
	l := texts("x", "-")
	wantText(t, x, l, strings.Repeat("(paren ", count)+"(name x"+strings.Repeat(")", count+1))
	wantText(t, y, l, strings.Repeat("(unary - ", count)+"(block"+strings.Repeat(")", count+1))
	wantText(t, n(api.NFile, 0, n(api.NInt, 0), x, n(api.NInt, 0)), l, "(file (int x) "+strings.Repeat("(paren ", count)+"(name x"+strings.Repeat(")", count+1)+" (int x))")
}

func TestWideTrees(t *testing.T) {
	const count = 500_000
	l := texts("x", "y", "z")
	x, y, z := n(api.NBlock, 0), n(api.NVar, 1), n(api.NVar, 1)
	for range count {
		x.Kids = append(x.Kids, n(api.NName, 0))
		y.Kids = append(y.Kids, n(api.NReturn, 0))
		z.Kids = append(z.Kids, n(api.NDo, 0, n(api.NInt, 2), n(api.NInt, 9)))
	}
	wantText(t, x, l, "(block"+strings.Repeat(" (name x)", count)+")")
	wantText(t, y, l, "(var y"+strings.Repeat(" (return)", count)+")")
	wantText(t, z, l, "(var y"+strings.Repeat(" (do (int z) (int ))", count)+")")
}

// TestLongLists has a great many tokens, and a long one that is written often.
func TestLongLists(t *testing.T) {
	const count = 500_000
	long := strings.Repeat("w", 10_000)
	l := slices.Repeat(texts("x", "y", "z"), count)
	l = append(l, api.Token{Text: long})
	wantText(t, n(api.NVar, 3*count-1, n(api.NType, 0), n(api.NName, 3*count+1)), l, "(var z (type x) (name ))")
	x := n(api.NBlock, 0)
	for range 1000 {
		x.Kids = append(x.Kids, n(api.NString, 3*count))
	}
	wantText(t, x, l, "(block"+strings.Repeat(" (string "+long+")", 1000)+")")
}

// Any tree and any tokens may come in; run with -fuzz to look further.
func FuzzTree(f *testing.F) {
	f.Add([]byte(""), "a b c")
	f.Add([]byte("\x01\x42\x83\xc4\x15\x07"), "x  ) \n")
	f.Fuzz(func(t *testing.T, b []byte, words string) {
		same(t, grown(b[:min(len(b), 1000)]), texts(strings.Split(words[:min(len(words), 200)], " ")...))
	})
}
