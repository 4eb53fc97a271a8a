package parse_test

import (
	"slices"
	"strings"
	"testing"

	"recension/api"
	"recension/parse"
	"recension/scan"
)

// samples are texts with lists of each kind, and some with faults.
func samples() []string {
	return append(validTexts(),
		"package a\nimport b\nimport c\nvar x T = 1\nvar y T\nconst c = f(1, 2, 3)(4).g\ntype T struct {x int;y int;z q.T}\nfunc f(x int, y int) q.T {x := 1;if x {y} else if z {y} else {;};L: for x {break L;return x}}",
		"package a\nfunc f() {x y}", "package a\nfunc f(", "package", "", "package a\nfunc f() {x.y := 1}", inFunc(strings.Repeat("(", 60)),
	)
}

// TestArgumentsStay hands in lists with spare room, which no call may write into.
func TestArgumentsStay(t *testing.T) {
	for _, text := range samples() {
		scanned, _, _ := scan.Scan(text)
		for n := range len(scanned) + 1 {
			whole := slices.Concat(scanned, []api.Token{word("x"), word("("), {Kind: -7, Text: "spare", At: -7, Line: -7, Auto: true}})
			before := slices.Clone(whole)
			parse.Tokens(whole[:n])
			if !slices.Equal(whole, before) {
				t.Errorf("P0.3: Tokens(%s) changes what it is handed", textOf(before[:n]))
			}
		}
	}
}

// TestSpareRoomIsNotRead hands in lists whose spare room goes on with the text.
func TestSpareRoomIsNotRead(t *testing.T) {
	l := words("package a ; func f ( ) { x ( y ) } ; END")
	for n := range len(l) {
		hold(t, l[:n], "", n)
		hold(t, slices.Clip(l[:n]), "", n)
	}
}

// listsOf answers where the lists of a tree are.
func listsOf(x *api.Node) []*[]api.Node {
	all := []*[]api.Node{&x.Kids}
	for i := range x.Kids {
		all = append(all, listsOf(&x.Kids[i])...)
	}
	return all
}

// TestListsOfAnAnswer writes a mark of its own over each list with its spare room: no two of them are one.
func TestListsOfAnAnswer(t *testing.T) {
	for _, text := range samples() {
		one, tokens, at := parse.Text(text)
		if at >= 0 {
			continue
		}
		other, _ := parse.Tokens(tokens)
		marked := map[int][]api.Node{}
		for _, list := range append(listsOf(&one), listsOf(&other)...) {
			room := (*list)[:cap(*list)]
			mark := len(marked) + 1000
			marked[mark] = room
		}
		for mark, room := range marked {
			for i := range room {
				room[i].Tok = mark
			}
		}
		for mark, room := range marked {
			for i := range room {
				if room[i].Tok != mark {
					t.Errorf("P0.3: two lists of the answers to %q are one", text)
				}
			}
		}
	}
}

// TestAnswersWrittenOver asks again when what was answered is written over.
func TestAnswersWrittenOver(t *testing.T) {
	for _, text := range samples() {
		scanned, _, scanFault := scan.Scan(text)
		first, tokens, at := parse.Text(text)
		told, kept := tell(first), slices.Clone(tokens)
		second, _ := parse.Tokens(scanned)
		spoil(&first, tokens)
		if at < 0 && tell(second) != told {
			t.Errorf("P0.3: another answer to %q is %s", text, short(tell(second)))
		}
		spoil(&second, nil)
		third, again, at2 := parse.Text(text)
		if tell(third) != told || at2 != at || !slices.Equal(again, kept) {
			t.Errorf("P0.3: Text(%q) answers %s, %d in the place of %s, %d", text, short(tell(third)), at2, short(told), at)
		}
		if fourth, fault := parse.Tokens(scanned); scanFault < 0 && (tell(fourth) != told || fault < 0 != (at < 0)) {
			t.Errorf("P0.3: Tokens of %q answers %s, %d in the place of %s", text, short(tell(fourth)), fault, short(told))
		}
	}
}

// spoil writes over all lists of an answer, and their spare room.
func spoil(x *api.Node, tokens []api.Token) {
	for _, list := range listsOf(x) {
		room := (*list)[:cap(*list)]
		for i := range room {
			room[i] = api.Node{Kind: -1, Tok: -1}
		}
	}
	for i := range tokens[:cap(tokens)] {
		tokens[:cap(tokens)][i] = api.Token{Kind: -1, Text: "spoilt", At: -1, Line: -1}
	}
}

// TestArgumentIsNotKept changes a list behind the call that was handed it.
func TestArgumentIsNotKept(t *testing.T) {
	l := words("package a ; func f ( ) { x ( y ) } ; END")
	tree, _ := parse.Tokens(l)
	told := tell(tree)
	for i := range l {
		l[i] = word(";")
	}
	if tell(tree) != told {
		t.Errorf("P0.3: a tree has become %s", tell(tree))
	}
	if _, fault := parse.Tokens(l); fault != 0 {
		t.Errorf("P0.5: Tokens of another list has the fault %d", fault)
	}
}

// TestAgain asks texts in turn: no call hangs on the one ahead of it.
func TestAgain(t *testing.T) {
	all := samples()
	type answer struct {
		told string
		at   int
	}
	ask := func(text string) answer {
		tree, _, at := parse.Text(text)
		return answer{tell(tree), at}
	}
	var first []answer
	for _, text := range all {
		first = append(first, ask(text))
	}
	for i := range slices.Backward(all) {
		if got := ask(all[i]); got != first[i] {
			t.Errorf("P0.5: Text(%q) is %s, %d, and was %s, %d", all[i], short(got.told), got.at, short(first[i].told), first[i].at)
		}
	}
}

// TestLongLists has a great many tokens: there is an answer to each.
func TestLongLists(t *testing.T) {
	const many = 100000
	list := func(ahead, one, behind string) []api.Token {
		return slices.Concat(words(ahead), slices.Repeat(words(one), many), words(behind))
	}
	for _, x := range []struct {
		ahead, one, behind string
		fault              int
	}{
		{"package a ;", ";", "END", -1},
		{"package a ;", "import b ;", "END", -1},
		{"package a ;", "var x T ;", "END", -1},
		{"package a ;", "func f ( ) { } ; var x T ;", "END", -1},
		{"package a ; type T struct {", "x int ;", "} ; END", -1},
		{"package a ; type T struct {", ";", "} ; END", -1},
		{"package a ; func f ( x int", ", x int", ") { } ; END", -1},
		{"package a ; func f ( ) {", "x ;", "} ; END", -1},
		{"package a ; func f ( ) {", "{ } ;", "} ; END", -1},
		{"package a ; const c = x", "+ x", "; END", -1},
		{"package a ; const c = x", "* x + x", "; END", -1},
		{"package a ; const c = x", "( )", "; END", -1},
		{"package a ; const c = x", ". x", "; END", -1},
		{"package a ; const c = x (", "x ,", "x ) ; END", -1},
		{"package a ; const c =", "(", "x ; END", 46},
		{"package a ; const c =", "-", "x ; END", 46},
		{"package a ; const c =", "x (", "END", 87},
		{"package a ; func f ( ) {", "{", "END", 47},
		{"package a ; func f ( ) {", "if x {", "END", 7 + 1 + 39*3 + 2},
		{"package a ; func f ( ) { if x { }", "else if x { }", "END", 8 + 4 + 5*38 + 3},
		{"", "package", "END", 1},
		{"", "x", "", 0},
		{"package a ; END", "END", "", 4},
	} {
		tree, fault := parse.Tokens(list(x.ahead, x.one, x.behind))
		if fault != x.fault || (tree.Kind == api.NFile) != (fault < 0) {
			t.Errorf("P0.1: Tokens(%s %s.. %s) has the fault %d, not %d", x.ahead, x.one, x.behind, fault, x.fault)
		}
	}
}

// TestLongTextsEnd takes texts far above what may be.
func TestLongTextsEnd(t *testing.T) {
	for _, s := range []string{"(", "a+", "\n", " ", "package a\n", "\"", "\xff", "{"} {
		long := strings.Repeat(s, 1<<20)
		if _, _, at := parse.Text(long); at < 0 {
			t.Errorf("P0.1: a text of many %q has no fault", s)
		}
	}
}
